/- MasterKept's walk. Condition: the contracts of package master. -/
import Derived.Test.YtpceoklacpcfkaaMsL1
import Derived.Maps.AppendAt
import Derived.Deep.CutRange
import Derived.BigQuiet
import Derived.Deep.QuietTactic
namespace Go.Proofs.Ytpceoklacpcfkaa
open Go.RowKit Go.Maps

namespace Ms
theorem infoK : (Try.prog.info? 33).map (fun i => (i.zero, i.size, i.bytes)) = some (some (.agg #[.int .i64 0, .int .i64 0, .int .i64 0, .int .i64 0, .bool false, .int .i64 0]), 6, 48) := by kernel_rfl
/-- What there is, and what had no error, in the order in which it came. -/
def stepK (s : List Zn × List Zn) (z : Zn) : List Zn × List Zn := ((addZ s.1 z).2, if (addZ s.1 z).1 = 0 then s.2 ++ [z] else s.2)
def runK (l : List Zn) : List Zn × List Zn := l.foldl stepK ([], [])
theorem runK_snoc (l : List Zn) (x : Zn) : runK (l ++ [x]) = stepK (runK l) x := by simp [runK, List.foldl_append]
/-- Just the same. -/
structure Just (s : List Zn × List Zn) : Prop where
  good : GoodZ s.1
  len : s.2.length = s.1.length
  mem : ∀ x ∈ s.2, x ∈ s.1
theorem just_nil : Just ([], []) := ⟨goodZ_nil, rfl, fun x hx => by simp at hx⟩
theorem just_step {s : List Zn × List Zn} (h : Just s) (z : Zn) : Just (stepK s z) := by
  have hg := goodZ_add h.good z
  unfold stepK
  by_cases hr : rightZ z = true
  · cases hf : findK Zn.id z.id s.1 with
    | some y =>
      have E : addZ s.1 z = (6, s.1) := by unfold addZ addL; rw [if_pos hr, hf]
      rw [E] at hg ⊢
      exact ⟨hg, h.len, h.mem⟩
    | none =>
      have E : addZ s.1 z = (0, ins Zn.id z s.1) := by unfold addZ addL; rw [if_pos hr, hf]
      rw [E] at hg ⊢
      refine ⟨hg, ?_, fun x hx => ?_⟩
      · simp only [if_pos, List.length_append, List.length_cons, List.length_nil]
        rw [ins_len, h.len]
      · simp only [if_pos] at hx
        rcases List.mem_append.1 hx with hx | hx
        · exact ins_mem.2 (.inr (h.mem x hx))
        · exact ins_mem.2 (.inl (List.mem_singleton.1 hx))
  · have E : addZ s.1 z = (1, s.1) := by unfold addZ; rw [if_neg hr]
    rw [E] at hg ⊢
    exact ⟨hg, h.len, h.mem⟩
theorem foldK_ok : ∀ (l : List Zn) (s : List Zn × List Zn), Just s → Just (l.foldl stepK s) ∧ (l.foldl stepK s).1.length ≤ s.1.length + l.length
  | [], s, h => ⟨h, Nat.le_refl _⟩
  | x :: l, s, h => by
    have := foldK_ok l (stepK s x) (just_step h x)
    have h2 : (stepK s x).1.length ≤ s.1.length + 1 := addZ_len
    refine ⟨this.1, ?_⟩
    simp only [List.foldl_cons, List.length_cons]
    omega
theorem runK_just (l : List Zn) : Just (runK l) := (foldK_ok l _ just_nil).1
theorem runK_len (l : List Zn) : (runK l).1.length ≤ l.length := by have := (foldK_ok l _ just_nil).2; simpa [runK] using this
/-- A master, and what was kept beside it. -/
def One (I : Face) (w W : World) (h : Nat) (s : List Zn × List Zn) (v : Value) : Prop :=
  ∃ F, I.DB W w.heap.size h F s.1 [] ∧ W.ownsRow w.heap.size 33 6 v s.2.length (s.2.flatMap zcells) ∧ (∀ k, F k → v.ownBlock ≠ some k) ∧ Below w.heap.size w W
theorem one_under {I : Face} {w W : World} {h : Nat} {s : List Zn × List Zn} {v : Value} (hs : One I w W h s v) : Below w.heap.size w W := hs.choose_spec.2.2.2
theorem one_below {I : Face} {w W w' : World} {h : Nat} {s : List Zn × List Zn} {v : Value} (hs : One I w W h s v) (hb : Below W.heap.size W w') : One I w w' h s v := by
  obtain ⟨F, h1, h2, h3, h4⟩ := hs
  exact ⟨F, I.keep h1 hb, own_turn h2 (Turn.of_below (S := fun _ => False) hb) (fun _ _ hh => hh), h3, h4.trans (hb.mono h4.size)⟩
theorem one_add {I : Face} {w W : World} {h : Nat} {s : List Zn × List Zn} {v : Value} (hs : One I w W h s v) (hG : GoodZ s.1) (hL : s.1.length ≤ 1000) (z : Zn) :
    Calls Try.prog 7 #[.pointer (some ⟨h, 0, none⟩), zval z] W fun e w' => e = .returned (.int .i64 ((addZ s.1 z).1 : Nat)) ∧ One I w w' h ((addZ s.1 z).2, s.2) v := by
  obtain ⟨F, h1, h2, h3, h4⟩ := hs
  refine (I.addZ _ h F s.1 [] z W h1 hG hL).mono fun e w' ⟨he, F', hd, ht, hk⟩ => ⟨he, F', hd, own_turn h2 ht (fun k e hh => h3 k hh e), fun k hf => ?_, ht.below h4 h4.size (fun i hi => (I.foot h1 hi).1)⟩
  rcases hk k hf with hf | hf
  · exact h3 k hf
  · exact fun e => by have := (own_lt h2 e).2; omega
/-- One more is kept. -/
theorem one_app {I : Face} {w W w2 : World} {h : Nat} {S K K2 : List Zn} {v v2 : Value} {ob : Obj} (hs : One I w W h (S, K) v) (ho : w2.ownsRow w.heap.size 33 6 v2 K2.length (K2.flatMap zcells)) (hg : (W.alloc ob).grownBy w2 v.ownBlock) (ha : v2.ownBlock = v.ownBlock ∨ v2.ownBlock = some (W.alloc ob).heap.size) : One I w w2 h (S, K2) v2 := by
  obtain ⟨F, h1, h2, h3, h4⟩ := hs
  have hT : Turn (fun k => v.ownBlock = some k) W w2 := ((Turn.refl _ W).alloc ob).grown hg (fun k hk => .inl hk)
  refine ⟨F, I.turn h1 hT h3, ho, fun k hk e => ?_, hT.below h4 h4.size (fun i hi => (own_lt h2 hi).1)⟩
  rcases ha with ha | ha
  · exact h3 k hk (ha ▸ e)
  · rw [ha] at e
    have := Option.some.inj e
    have h5 := (I.foot h1 hk).2
    simp at this
    omega
theorem kept_long (I : Face) (p : Option Addr) (n c : Nat) (w : World) (hn : n ≤ 9223372036854775807) (h : 60 < n) :
    Calls Try.prog 4 #[.slice p n c] w fun e w' => e = .returned (.bool true) ∧ Below w.heap.size w w' := by
  have A := Lib.hid (fun W => alive_any I W)
  have h2 : (60 : Int) < (n : Int) := by omega
  go_enter Try.func4, Try.ntmps4
  go_wp2_with fail
  refine (A.out _).mono ?_
  rintro e w' ⟨rfl, hb⟩
  go_wp2
  go_ret
  exact ⟨rfl, hb⟩
set_option maxRecDepth 100000 in
set_option maxHeartbeats 16000000 in
theorem kept_yes (I : Face) (p : Option Addr) (n c : Nat) (L : List Zn) (w : World) (hn : n ≤ 60) (hL : Rw 6 zcells w p n L) :
    Calls Try.prog 4 #[.slice p n c] w fun e w' => e = .returned (.bool true) ∧ Below w.heap.size w w' := by
  obtain ⟨i0, hi, hz0, hz1, hz2⟩ := info_parts infoK
  have HL := Lib.hid hL
  have hn' : (n : Int) ≤ 60 := by omega
  have hn2 : ¬ 60 < n := by omega
  clear hL
  go_enter Try.func4, Try.ntmps4
  go_wp2_with fail
  clear hn2
  refine (I.new _).mono ?_
  rintro e w1 ⟨h, F, rfl, hd, hb⟩
  have S1 : Hid (One I w w1 h (runK (L.take 0)) (.slice none 0 0)) := Lib.hid ⟨F, hd, World.ownsRow_nil _ _ _ _, by simp [Value.ownBlock], hb⟩
  clear hd hb
  go_wp2_with fail
  go_loopw [4, 5] (fun v i wr => ∃ (k f : Nat), k ≤ n ∧ f ≤ k ∧ i = .int .i64 k ∧ (∃ q d, v = .slice q f d) ∧ Hid ((runK (L.take k)).2.length = f) ∧ Hid (One I w wr h (runK (L.take k)) v)) (fun _ i _ => n - (RowKit.intOf i).toNat)
  case atStart => exact ⟨0, 0, Nat.zero_le _, Nat.le_refl _, rfl, ⟨none, 0, rfl⟩, Lib.hid rfl, S1⟩
  case round =>
    obtain ⟨k, f, hk, hf, rfl, ⟨q, d, rfl⟩, HF, SB⟩ := hrel
    clear S1
    have HLn := Lib.hid HL.out.1
    have KL := Lib.hid (show (runK (L.take k)).1.length ≤ 60 from Nat.le_trans (runK_len _) (by have := HL.out.1; simp; omega))
    have JK := Lib.hid (runK_just (L.take k))
    by_cases hlt : k < n
    · have hk3 : (k : Int) < (n : Int) := by omega
      obtain ⟨b2, o, hp, hc⟩ := HL.out.2 (by omega)
      obtain ⟨y, hy⟩ : ∃ y, L[k]? = some y := ⟨_, List.getElem?_eq_getElem (by rw [HLn.out]; exact hlt)⟩
      subst hp
      have EC := Lib.hid (fun (W : World) (hW : Below w.heap.size w W) => ((HL.out.keep zcells_len hW).2 (by omega)))
      have EC2 := Lib.hid (fun (W : World) (hW : Below w.heap.size w W) i (hi : i < 6) => show W.cell? ⟨b2, o + k * 6 + i, none⟩ = (zcells y)[i]? by
        obtain ⟨b3, o3, e3, hc3⟩ := EC.out W hW
        injection e3 with e3
        injection e3 with e4 e5
        subst e4 e5
        exact hc3 k y hy i hi)
      have TK := Lib.hid (show runK (L.take (k + 1)) = stepK (runK (L.take k)) y by rw [take_one hy, runK_snoc])
      have HYC : Hid (zcells y = [.int .i64 y.id, .int .i64 y.worst, .int .i64 y.gap, .int .i64 y.room, .bool y.dock, .int .i64 y.ajar]) := Lib.hid rfl
      clear hc hy EC HL
      generalize runK (L.take k) = S at *
      have C1 := Lib.hid (fun W (hs : One I w W h S (.slice q f d)) => one_add hs JK.out.good (by have := KL.out; omega) y)
      have hT2 := TK.out
      unfold stepK at hT2
      clear TK KL JK
      generalize addZ S.1 y = r at *
      obtain ⟨er, S2⟩ := r
      obtain ⟨S1, K1⟩ := S
      simp only at hT2 C1 HF
      have TK2 := Lib.hid hT2
      clear hT2
      have hu := Lib.hid (one_under SB.out)
      obtain ⟨ya, yb, yc, yd, ye, yf⟩ := y
      unfold zval at C1
      simp only at C1 HYC
      have e0 : wr.cell? ⟨b2, o + k * 6, none⟩ = some (.int .i64 ya) := EC2.out wr hu.out 0 (by decide)
      have e1 : wr.cell? ⟨b2, o + k * 6 + 1, none⟩ = some (.int .i64 yb) := EC2.out wr hu.out 1 (by decide)
      have e2 : wr.cell? ⟨b2, o + k * 6 + 2, none⟩ = some (.int .i64 yc) := EC2.out wr hu.out 2 (by decide)
      have e3 : wr.cell? ⟨b2, o + k * 6 + 3, none⟩ = some (.int .i64 yd) := EC2.out wr hu.out 3 (by decide)
      have e4 : wr.cell? ⟨b2, o + k * 6 + 4, none⟩ = some (.bool ye) := EC2.out wr hu.out 4 (by decide)
      have e5 : wr.cell? ⟨b2, o + k * 6 + 5, none⟩ = some (.int .i64 yf) := EC2.out wr hu.out 5 (by decide)
      go_wp2_with fail
      refine (C1.out _ SB.out).mono ?_
      rintro E w3 ⟨rfl, hs3⟩
      have S3 := Lib.hid hs3
      have U3 := Lib.hid (one_under hs3)
      clear hs3 C1 SB hu e0 e1 e2 e3 e4 e5
      have e0 : w3.cell? ⟨b2, o + k * 6, none⟩ = some (.int .i64 ya) := EC2.out w3 U3.out 0 (by decide)
      have e1 : w3.cell? ⟨b2, o + k * 6 + 1, none⟩ = some (.int .i64 yb) := EC2.out w3 U3.out 1 (by decide)
      have e2 : w3.cell? ⟨b2, o + k * 6 + 2, none⟩ = some (.int .i64 yc) := EC2.out w3 U3.out 2 (by decide)
      have e3 : w3.cell? ⟨b2, o + k * 6 + 3, none⟩ = some (.int .i64 yd) := EC2.out w3 U3.out 3 (by decide)
      have e4 : w3.cell? ⟨b2, o + k * 6 + 4, none⟩ = some (.bool ye) := EC2.out w3 U3.out 4 (by decide)
      have e5 : w3.cell? ⟨b2, o + k * 6 + 5, none⟩ = some (.int .i64 yf) := EC2.out w3 U3.out 5 (by decide)
      by_cases h0 : er = 0
      · subst h0
        obtain ⟨F3, _, o3, _, _⟩ := S3.out
        have OW : Hid (w3.ownsRow w.heap.size 33 6 (.slice q f d) f (K1.flatMap zcells)) := Lib.hid (by have o4 : w3.ownsRow w.heap.size 33 6 (.slice q f d) K1.length (K1.flatMap zcells) := o3; rw [HF.out] at o4; exact o4)
        have hs := U3.out.size
        clear o3
        go_wp2_with (at_builtin; refine wpList_append_own_at _ rfl _ _ 22 rfl w.heap.size 33 i0 _ 6 48 Try.underlying22 hi hz0 hz1 hz2 rfl (by decide) _ _ _ rfl (OW.out.alloc _) ⟨w3.heap.size, 0, none⟩ 1 1 [.int .i64 ya, .int .i64 yb, .int .i64 yc, .int .i64 yd, .bool ye, .int .i64 yf] rfl rfl (World.news_of_block (cs := #[.int .i64 ya, .int .i64 yb, .int .i64 yc, .int .i64 yd, .bool ye, .int .i64 yf]) (t := 33) (fr := (0, 0)) (heap_alloc_new w3 _)) (by simp [Value.oneCell']) (by unfold maxLen; omega) (by omega) (by simp; omega) ?_; intro v5 w5 hown5 hg5 _ hat5; have OA5 := Lib.hid (one_app (K2 := K1 ++ [⟨ya, yb, yc, yd, ye, yf⟩]) S3.out (by rw [← flat_snoc, HYC.out, List.length_append, HF.out]; exact hown5) hg5 hat5))
        obtain ⟨q5, d5, rfl⟩ := own_slice hown5
        have O5 := Lib.hid OA5.out
        clear hown5 hg5 hat5 OA5 OW
        go_wp2
        go_roundw
        case rel => exact ⟨k + 1, f + 1, by omega, by omega, by go_num, ⟨_, _, rfl⟩, Lib.hid (by rw [TK2.out]; have := HF.out; simp [this]), Lib.hid (by rw [TK2.out, if_pos trivial]; exact O5.out)⟩
        case measure => simp [RowKit.intOf]; omega
      · have h0' : ((er : Int) == 0) = false := by simp; exact h0
        have O5 : Hid (One I w w3 h (S2, if er = 0 then K1 ++ [⟨ya, yb, yc, yd, ye, yf⟩] else K1) (.slice q f d)) := Lib.hid (by rw [if_neg h0]; exact S3.out)
        have HF5 : Hid ((if er = 0 then K1 ++ [⟨ya, yb, yc, yd, ye, yf⟩] else K1).length = f) := Lib.hid (by rw [if_neg h0]; exact HF.out)
        clear h0
        go_wp2
        go_roundw
        case rel => exact ⟨k + 1, f, by omega, by omega, by go_num, ⟨_, _, rfl⟩, Lib.hid (by rw [TK2.out]; exact HF5.out), Lib.hid (by rw [TK2.out]; exact O5.out)⟩
        case measure => simp [RowKit.intOf]; omega
    · obtain rfl : k = n := by omega
      have hJ := runK_just L
      have HE : L.take k = L := List.take_of_length_le (by rw [HLn.out]; exact Nat.le_refl _)
      have KN := KL.out
      rw [HE] at SB HF KN
      generalize runK L = S at *
      obtain ⟨Z, K⟩ := S
      have SB0 : Hid (One I w wr h (Z, K) (.slice q f d)) := SB
      have hZ : Z.length = f := by rw [← hJ.len]; exact HF.out
      have hf60 : f ≤ 60 := by rw [← hZ]; exact KN
      have HK := Lib.hid (show K.length = f from HF.out)
      have HJ := Lib.hid hJ
      have AZ := Lib.hid (fun F W (hd : I.DB W w.heap.size h F Z []) => (I.zones _ h F Z [] W hd hJ.good (by omega)).mono (fun e w' hh => zs_end hZ hh))
      have RO := Lib.hid (fun F W m (hd : I.DB W w.heap.size h F Z []) (h0 : -9223372036854775808 ≤ m) (h1 : m ≤ 9223372036854775807) => I.zone _ h F Z [] m W hd h0 h1)
      have HZ := Lib.hid hZ
      clear KN HE KL JK SB HF hZ hJ HL HLn hlt
      have hf' : (f : Int) ≤ 60 := by omega
      have SO := SB0.out
      obtain ⟨F3, d3, o3, _, u3⟩ := SO
      have D3 := Lib.hid d3
      have O3 : Hid (wr.ownsRow w.heap.size 33 6 (.slice q f d) f (K.flatMap zcells)) := Lib.hid (by have o4 : wr.ownsRow w.heap.size 33 6 (.slice q f d) K.length (K.flatMap zcells) := o3; rw [HK.out] at o4; exact o4)
      have U3 := Lib.hid u3
      clear o3 d3 u3 SB0
      go_wp2_with fail
      refine (AZ.out _ _ D3.out).mono ?_
      rintro e w4 ⟨qa, ca, rfl, _, _, hra, hb⟩
      have RA := Lib.hid hra
      have D4 := Lib.hid (I.keep D3.out hb)
      have O4 := Lib.hid (own_turn O3.out (Turn.of_below (S := fun _ => False) hb) (fun _ _ hh => hh))
      have U4 := Lib.hid (U3.out.trans (hb.mono U3.out.size))
      clear hra hb AZ D3 O3 U3
      go_wp2_with fail
      go_loopw [8] (fun i wr => ∃ j : Nat, j ≤ f ∧ i = .int .i64 j ∧ Hid (Below w4.heap.size w4 wr)) (fun i _ => f - (RowKit.intOf i).toNat)
      case atStart => exact ⟨0, Nat.zero_le _, rfl, Lib.hid (Below.refl _ _)⟩
      case round =>
        obtain ⟨j, hj, rfl, BV⟩ := hrel
        by_cases hlt : j < f
        · have hj3 : (j : Int) < (f : Int) := by omega
          obtain ⟨y, hy⟩ : ∃ y, K[j]? = some y := ⟨_, List.getElem?_eq_getElem (by rw [HK.out]; exact hlt)⟩
          have hm := HJ.out.mem y (List.mem_of_getElem? hy)
          have hid := rightZ_id (HJ.out.good.right y hm)
          have HFD := Lib.hid (find_mem HJ.out.good.ord hm)
          obtain ⟨blk, cc, e, hb1, hb2, _⟩ := own_some O4.out (by omega)
          have FE1 := Lib.hid (fun (W : World) (hW : Below w4.heap.size w4 W) i (hi : i < 6) => by
            have o2 := O4.out
            rw [e] at o2
            have := row_cell zcells_len o2 HK.out hy hi
            exact (hW.cell (p := ⟨blk, j * 6 + i, none⟩) hb2).trans this)
          have C1 := Lib.hid (fun W (hW : Below w4.heap.size w4 W) => RO.out _ W y.id (I.keep D4.out hW) (by omega) (by omega))
          rw [show getK (findK Zn.id y.id Z) zn0 = (y, 0) by rw [HFD.out]; rfl] at C1
          cases e
          clear hy hm hid HFD hb1
          obtain ⟨ya, yb, yc, yd, ye, yf⟩ := y
          unfold zval at C1
          simp only at C1
          have k0 : wr.cell? ⟨blk, j * 6, none⟩ = some (.int .i64 ya) := FE1.out wr BV.out 0 (by decide)
          have k1 : wr.cell? ⟨blk, j * 6 + 1, none⟩ = some (.int .i64 yb) := FE1.out wr BV.out 1 (by decide)
          have k2 : wr.cell? ⟨blk, j * 6 + 2, none⟩ = some (.int .i64 yc) := FE1.out wr BV.out 2 (by decide)
          have k3 : wr.cell? ⟨blk, j * 6 + 3, none⟩ = some (.int .i64 yd) := FE1.out wr BV.out 3 (by decide)
          have k4 : wr.cell? ⟨blk, j * 6 + 4, none⟩ = some (.bool ye) := FE1.out wr BV.out 4 (by decide)
          have k5 : wr.cell? ⟨blk, j * 6 + 5, none⟩ = some (.int .i64 yf) := FE1.out wr BV.out 5 (by decide)
          go_wp2_with fail
          refine (C1.out _ BV.out).mono ?_
          rintro E v5 ⟨rfl, hb⟩
          have B5 := Lib.hid ((BV.out.trans (hb.mono BV.out.size)).alloc (Nat.le_trans BV.out.size hb.size) (.cells #[.int .i64 ya, .int .i64 yb, .int .i64 yc, .int .i64 yd, .bool ye, .int .i64 yf] 33))
          have X5 := Lib.hid (Lies.new v5 33 #[.int .i64 ya, .int .i64 yb, .int .i64 yc, .int .i64 yd, .bool ye, .int .i64 yf])
          clear hb C1 BV k0 k1 k2 k3 k4 k5
          obtain ⟨v6, hv6⟩ : ∃ v6, v5.alloc (.cells #[.int .i64 ya, .int .i64 yb, .int .i64 yc, .int .i64 yd, .bool ye, .int .i64 yf] 33) = v6 := ⟨_, rfl⟩
          rw [hv6] at B5 X5
          have HV := Lib.hid hv6
          clear hv6
          go_upto_region 16 with (fail)
          rw [HV.out]
          clear HV
          have k0 : v6.cell? ⟨blk, j * 6, none⟩ = some (.int .i64 ya) := FE1.out v6 B5.out 0 (by decide)
          have k1 : v6.cell? ⟨blk, j * 6 + 1, none⟩ = some (.int .i64 yb) := FE1.out v6 B5.out 1 (by decide)
          have k2 : v6.cell? ⟨blk, j * 6 + 2, none⟩ = some (.int .i64 yc) := FE1.out v6 B5.out 2 (by decide)
          have k3 : v6.cell? ⟨blk, j * 6 + 3, none⟩ = some (.int .i64 yd) := FE1.out v6 B5.out 3 (by decide)
          have k4 : v6.cell? ⟨blk, j * 6 + 4, none⟩ = some (.bool ye) := FE1.out v6 B5.out 4 (by decide)
          have k5 : v6.cell? ⟨blk, j * 6 + 5, none⟩ = some (.int .i64 yf) := FE1.out v6 B5.out 5 (by decide)
          have x0 : v6.cell? ⟨v5.heap.size, 0, none⟩ = some (.int .i64 ya) := X5.out.cell 0
          have x1 : v6.cell? ⟨v5.heap.size, 1, none⟩ = some (.int .i64 yb) := X5.out.cell 1
          have x2 : v6.cell? ⟨v5.heap.size, 2, none⟩ = some (.int .i64 yc) := X5.out.cell 2
          have x3 : v6.cell? ⟨v5.heap.size, 3, none⟩ = some (.int .i64 yd) := X5.out.cell 3
          have x4 : v6.cell? ⟨v5.heap.size, 4, none⟩ = some (.bool ye) := X5.out.cell 4
          have x5 : v6.cell? ⟨v5.heap.size, 5, none⟩ = some (.int .i64 yf) := X5.out.cell 5
          go_quiet (fail)
          go_wp2
          go_roundw
          case rel => exact ⟨j + 1, by omega, by go_num, Lib.hid (below_drewN B5.out _)⟩
          case measure => simp [RowKit.intOf]; omega
        · obtain rfl : j = f := by omega
          have SE := Lib.hid (U4.out.trans (BV.out.mono U4.out.size))
          have RA2 := Lib.hid (RA.out.keep zcells_len BV.out)
          have HO := Lib.hid HJ.out.good.ord
          clear RO D4 O4 U4 RA HJ HK hlt hj BV
          go_wp2_with fail
          obtain ⟨wo, hwo⟩ : ∃ wo, wo = wr := ⟨_, rfl⟩
          rw [← hwo] at SE RA2 ⊢
          clear hwo
          go_loopw [11] (fun i wr => ∃ t m : Nat, i = .int .i64 ((t : Int) + 1) ∧ wr = wo.drewN m ∧ (t = 0 ∨ t + 1 ≤ j)) (fun i _ => j + 1 - (RowKit.intOf i).toNat)
          case atStart => exact ⟨0, 0, rfl, rfl, .inl rfl⟩
          case round =>
            obtain ⟨t, m, rfl, rfl, ht⟩ := hrel
            by_cases hlt : t + 1 < j
            · have ht3 : (t : Int) + 1 < (j : Int) := by omega
              obtain ⟨b3, o3, hp, hc⟩ := RA2.out.2 (by omega)
              obtain ⟨x, hx⟩ : ∃ x, Z[t]? = some x := ⟨_, List.getElem?_eq_getElem (by rw [HZ.out]; omega)⟩
              obtain ⟨y, hy⟩ : ∃ y, Z[t + 1]? = some y := ⟨_, List.getElem?_eq_getElem (by rw [HZ.out]; omega)⟩
              have hxy : x.id < y.id := by
                obtain ⟨h1, e1⟩ := List.getElem?_eq_some_iff.1 hx
                obtain ⟨h2, e2⟩ := List.getElem?_eq_some_iff.1 hy
                have := List.pairwise_iff_getElem.1 HO.out t (t + 1) h1 h2 (by omega)
                rw [e1, e2] at this
                exact this
              have e0 : wo.cell? ⟨b3, o3 + t * 6, none⟩ = some (.int .i64 x.id) := hc t x hx 0 (by decide)
              have e1 : wo.cell? ⟨b3, o3 + (t + 1) * 6, none⟩ = some (.int .i64 y.id) := hc (t + 1) y hy 0 (by decide)
              subst hp
              have q1 : IntKind.i64.wrap ((t : Int) + 1 - 1) = (t : Int) := by rw [show (t : Int) + 1 - 1 = t by omega]; exact IntWalk.i64_in _ (by omega)
              have q2 : IntKind.i64.wrap (t : Int) = (t : Int) := IntWalk.i64_in _ (by omega)
              have q3 : ((t : Int) + 1).toNat = t + 1 := by omega
              have q4 : decide (y.id ≤ x.id) = false := by simp; omega
              clear hc hx hy
              generalize x.id = xi at *
              generalize y.id = yi at *
              clear hxy
              go_wp2_with fail
              go_quiet (fail)
              clear q1 q2 q3 q4
              go_wp2
              go_roundw
              case rel => exact ⟨t + 1, _, by go_num, rfl, .inr (by omega)⟩
              case measure => simp [RowKit.intOf]; omega
            · have ht3 : ¬ (t : Int) + 1 < (j : Int) := by omega
              go_wp2_with fail
              refine (alive_any I _).mono ?_
              rintro e w9 ⟨rfl, hb⟩
              have B9 := Lib.hid ((below_drewN SE.out m).trans (hb.mono SE.out.size))
              clear hb
              go_wp2
              go_ret
              exact ⟨rfl, B9.out⟩
end Ms
end Go.Proofs.Ytpceoklacpcfkaa
