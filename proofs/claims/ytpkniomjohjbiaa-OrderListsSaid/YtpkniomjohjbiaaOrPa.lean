/- Walks over package order: what may be wanted, whether a list may be a book's, a copy, a new one, what comes. No condition but those written. -/
import Derived.Test.YtpkniomjohjbiaaOr3
import Derived.Test.YtpkniomjohjbiaaOrFace
import Derived.Test.YtpkniomjohjbiaaSl
namespace Go.Proofs.Ytpkniomjohjbiaa
open Go.RowKit

namespace Or
/-- A book in memory: its block, and the row of its orders. -/
def PBo (w : World) (B h : Nat) (v : Value) (l : List Od) : Prop := B ≤ h ∧ Lies w h 49 #[v] ∧ w.ownsRow B 40 4 v l.length (l.flatMap ocells) ∧ B ≤ w.heap.size
def DBo (w : World) (B h : Nat) (F : Nat → Prop) (l : List Od) : Prop := ∃ v, PBo w B h v l ∧ ∀ k, F k ↔ Feet h v k
theorem PBo.apart {w : World} {B h : Nat} {v : Value} {l : List Od} (hp : PBo w B h v l) : v.ownBlock ≠ some h := own_blk_ne hp.2.2.1 hp.2.1 (by decide)
theorem dbo_foot {w : World} {B h : Nat} {F : Nat → Prop} {l : List Od} {k : Nat} (hd : DBo w B h F l) (hk : F k) : B ≤ k ∧ k < w.heap.size := by
  obtain ⟨v, hp, hF⟩ := hd
  rcases (hF k).1 hk with rfl | h1
  · exact ⟨hp.1, hp.2.1.lt⟩
  · exact own_lt hp.2.2.1 h1
theorem dbo_turn {w w' : World} {B h : Nat} {F T : Nat → Prop} {l : List Od} (hd : DBo w B h F l) (ht : Turn T w w') (hT : ∀ k, F k → ¬ T k) : DBo w' B h F l := by
  obtain ⟨v, ⟨h1, h2, h3, h4⟩, hF⟩ := hd
  exact ⟨v, ⟨h1, h2.turn ht (hT h ((hF h).2 (.inl rfl))), own_turn h3 ht (fun k hk => hT k ((hF k).2 (.inr hk))), Nat.le_trans h4 ht.size⟩, hF⟩
theorem dbo_left {w w' : World} {B h : Nat} {F : Nat → Prop} {v v' : Value} {l' : List Od} (hF : ∀ k, F k ↔ Feet h v k) (hp : PBo w' B h v' l') (ht : Turn (Feet h v) w w') (hv : ∀ k, v'.ownBlock = some k → v.ownBlock = some k ∨ w.heap.size ≤ k) : Left DBo w B h F l' w' :=
  ⟨Feet h v', ⟨v', hp, fun _ => Iff.rfl⟩, ht.mono (fun i _ hi => (hF i).2 hi), fun k hk => by
    rcases hk with rfl | hk
    · exact .inl ((hF k).2 (.inl rfl))
    · exact (hv k hk).imp (fun h => (hF k).2 (.inr h)) id⟩
theorem PBo.read {w : World} {B h : Nat} {v : Value} {l : List Od} (hp : PBo w B h v l) : ∃ p c, v = .slice p l.length c ∧ l.length ≤ c ∧ Rw 4 ocells w p l.length l := rw_own ocells_len hp.2.2.1
set_option maxRecDepth 100000 in
set_option maxHeartbeats 4000000 in
theorem oclone_any (q : Option Addr) (n c : Nat) (S : List Od) (w : World) (h : Rw 4 ocells w q n S) (hL : S.length ≤ 1000000) :
    Calls Try.prog 24 #[.slice q n c] w fun e w' => ∃ v, e = .returned v ∧ w'.ownsRow w.heap.size 40 4 v S.length (S.flatMap ocells) ∧ Below w.heap.size w w' := by
  have qe : ∀ (w : World) (a : Option Addr) (n c n' c' : Nat), (binOp .eql 26 (.slice a n c) (.slice none n' c')).run Try.prog w = .ok (.bool a.isNone) w := fun w a n c n' c' => Lib.run_eql_slice_nil w _ _ a n c n' c' Try.underlying26
  cases q with
  | none =>
    have hS : S = [] := by
      rcases Nat.eq_zero_or_pos n with h0 | h0
      · exact List.eq_nil_of_length_eq_zero (h.1.trans h0)
      · obtain ⟨_, _, e, _⟩ := h.2 h0
        cases e
    subst hS
    go_enter Try.func24, Try.ntmps24
    go_wp2
    go_ret
    exact ⟨_, rfl, World.ownsRow_nil _ _ _ _, Below.refl _ _⟩
  | some a =>
    obtain ⟨i0, hi, hz0, hz1, hz2⟩ := info_parts infoO
    have hn := h.1
    have hl : (S.flatMap ocells).length = n * 4 := by rw [flat_len ocells_len, hn]
    have hc : ∀ j u, (S.flatMap ocells)[j]? = some u → w.cell? (a.add j) = some u := fun j u hj => by
      have hlt := (List.getElem?_eq_some_iff.1 hj).1
      obtain ⟨b, o, e, _⟩ := h.2 (by omega)
      cases e
      rw [add_none]
      exact rw_cells ocells_len h j u hj
    have HC := Lib.hid hc
    have H1 := Lib.hid (show ∀ u ∈ S.flatMap ocells, u.oneCell' = true from fun u hu => by
      obtain ⟨y, _, hu⟩ := List.mem_flatMap.1 hu
      exact ocells_one y u hu)
    subst hn
    clear hc h
    go_enter Try.func24, Try.ntmps24
    go_wp2_with (at_builtin; refine wpList_append_own _ rfl _ _ 26 rfl w.heap.size 40 i0 _ 4 32 Try.underlying26 hi hz0 hz1 hz2 rfl (by decide) _ _ _ rfl (World.ownsRow_made w #[] 0 (Nat.le_refl _) (Nat.zero_le _) (by simp)) a S.length c (S.flatMap ocells) rfl ?qc1 ?qc2 ?qc3 ?qc4 ?qc5 ?qc6 ?_)
    case qc1 => exact hl
    case qc2 =>
      intro j u hj
      exact Lib.cell?_alloc_some _ (HC.out j u hj)
    case qc3 => exact H1.out
    case qc4 => unfold maxLen; omega
    case qc5 => omega
    case qc6 => simp
    intro v' w1 hown hgrow hnil
    go_wp2
    go_ret
    refine ⟨v', rfl, by simpa using hown, ?_⟩
    exact ((Below.refl _ w).alloc (Nat.le_refl _) _).grown hgrow (by simp) (by intro k hk; simp [Value.ownBlock] at hk; omega)
set_option maxRecDepth 100000 in
set_option maxHeartbeats 8000000 in
theorem mw_any (p u : Int) (w : World) : Calls Try.prog 23 #[.int .i64 p, .int .i64 u] w fun e w' => e = .returned (.bool (wantB p u)) ∧ w = w' := by
  by_cases c0 : 1 ≤ p
  case neg =>
    have E := Lib.hid (show wantB p u = false by rw [Bool.eq_false_iff]; intro h; have := wantB_iff.1 h; omega)
    have t0 : decide (1 ≤ p) = false := decide_eq_false c0
    clear c0
    go_enter Try.func23, Try.ntmps23
    go_wp2
    go_ret
    exact ⟨by rw [E.out]; rfl, rfl⟩
  have t0 : decide (1 ≤ p) = true := decide_eq_true c0
  by_cases c1 : p ≤ 16
  case neg =>
    have E := Lib.hid (show wantB p u = false by rw [Bool.eq_false_iff]; intro h; have := wantB_iff.1 h; omega)
    have t1 : decide (p ≤ 16) = false := decide_eq_false c1
    clear c0 c1
    go_enter Try.func23, Try.ntmps23
    go_wp2
    go_ret
    exact ⟨by rw [E.out]; rfl, rfl⟩
  have t1 : decide (p ≤ 16) = true := decide_eq_true c1
  by_cases c2 : 1 ≤ u
  case neg =>
    have E := Lib.hid (show wantB p u = false by rw [Bool.eq_false_iff]; intro h; have := wantB_iff.1 h; omega)
    have t2 : decide (1 ≤ u) = false := decide_eq_false c2
    clear c0 c1 c2
    go_enter Try.func23, Try.ntmps23
    go_wp2
    go_ret
    exact ⟨by rw [E.out]; rfl, rfl⟩
  have t2 : decide (1 ≤ u) = true := decide_eq_true c2
  by_cases c3 : u ≤ 1048576
  case neg =>
    have E := Lib.hid (show wantB p u = false by rw [Bool.eq_false_iff]; intro h; have := wantB_iff.1 h; omega)
    have t3 : decide (u ≤ 1048576) = false := decide_eq_false c3
    clear c0 c1 c2 c3
    go_enter Try.func23, Try.ntmps23
    go_wp2
    go_ret
    exact ⟨by rw [E.out]; rfl, rfl⟩
  have t3 : decide (u ≤ 1048576) = true := decide_eq_true c3
  have E := Lib.hid (show wantB p u = true from wantB_iff.2 ⟨⟨c0, c1⟩, c2, c3⟩)
  clear c0 c1 c2 c3
  go_enter Try.func23, Try.ntmps23
  go_wp2
  go_ret
  exact ⟨by rw [E.out]; rfl, rfl⟩
set_option maxRecDepth 100000 in
set_option maxHeartbeats 8000000 in
theorem pright_any (p : Option Addr) (n c : Nat) (l : List Od) (w : World) (h : Rw 4 ocells w p n l) (_ : n ≤ c) (hn : n ≤ 1000000) :
    Calls Try.prog 20 #[.slice p n c] w fun e w' => e = .returned (.bool (rightB l)) ∧ Below w.heap.size w w' := by
  have hl := h.1
  by_cases h64 : 64 < n
  · have HE := Lib.hid (right_long (l := l) (by omega))
    have t0 : decide (((n : Nat) : Int) > 64) = true := by simp; omega
    have t1 : ((n : Nat) : Int) ≤ 1000000 := by omega
    clear h hl hn h64
    go_enter Try.func20, Try.ntmps20
    go_wp2
    go_ret
    exact ⟨by rw [HE.out]; rfl, Below.refl _ _⟩
  have t0 : decide (((n : Nat) : Int) > 64) = false := by simp; omega
  have t1 : ((n : Nat) : Int) ≤ 64 := by omega
  have H := Lib.hid h
  have HN := Lib.hid hl
  have H64 := Lib.hid h64
  have B0 := Lib.hid (Below.refl w.heap.size w)
  have CW := Lib.hid (fun a b W => mw_any a b W)
  clear h hl hn h64
  go_enter Try.func20, Try.ntmps20
  go_wp2
  go_loopw [10] (fun i wr => ∃ k : Nat, k ≤ n ∧ i = .int .i64 k ∧ Hid (Oks l k) ∧ Hid (Below w.heap.size w wr)) (fun i _ => n - (RowKit.intOf i).toNat)
  case atStart => exact ⟨0, Nat.zero_le _, rfl, Lib.hid (oks_zero l), B0⟩
  case round =>
    obtain ⟨k, hk, rfl, KO, BR⟩ := hrel
    by_cases hlt : k < n
    · have hk3 : (k : Int) < (n : Int) := by omega
      obtain ⟨y, hy⟩ : ∃ y, l[k]? = some y := ⟨_, List.getElem?_eq_getElem (by rw [HN.out]; exact hlt)⟩
      obtain ⟨b, o, rfl, e0, e1, e2, e3⟩ := od_at (H.out.keep ocells_len BR.out) hy
      have HK := Lib.hid (fun hb => oks_next KO.out hy hb)
      have HX := Lib.hid (fun hb => right_bad hy hb)
      have HO := Lib.hid (okB_iff (i := k) (x := y))
      have BA := Lib.hid (BR.out.alloc BR.out.size (.cells (ocells y).toArray 40))
      obtain ⟨ka, kb, kc, kd⟩ := y
      simp only [ocells] at HK HX e0 e1 e2 e3 BA
      clear hy
      have C := Lib.hid (fun W => CW.out kb kc W)
      cases hb : okB k ⟨ka, kb, kc, kd⟩ with
      | true =>
        obtain ⟨q1, q2, q3, q4⟩ := HO.out.1 hb
        simp only at q1 q2 q3 q4
        have KN := Lib.hid (HK.out hb)
        rw [q2] at C
        have u0 : (ka != (k : Int) + 1) = false := by simp [q1]
        have u5 : decide (kd < 0) = false := by simp; omega
        have u6 : decide (2 < kd) = false := by simp; omega
        clear hb q1 q2 q3 q4 HO HX HK CW
        go_wp2_with (go_at_call 23; ((with_reducible refine (C.out _).mono ?_); rintro e w1 ⟨rfl, rfl⟩))
        go_roundw
        case rel => exact ⟨k + 1, by omega, by go_num, KN, BA⟩
        case measure => simp [RowKit.intOf]; omega
      | false =>
        have HE := Lib.hid (HX.out hb)
        have hor : ka ≠ (k : Int) + 1 ∨ wantB kb kc = false ∨ kd < 0 ∨ 2 < kd := by
          have h1 : ¬ _ := mt HO.out.2 (by rw [hb]; exact Bool.false_ne_true)
          simp only at h1
          cases hwb : wantB kb kc with
          | true =>
            rw [hwb] at h1
            simp only [true_and] at h1
            simp only [Bool.true_eq_false, false_or]
            omega
          | false => exact .inr (.inl rfl)
        clear hb HO HX HK CW
        by_cases c0 : ka = (k : Int) + 1
        case neg =>
          have u0 : (ka != (k : Int) + 1) = true := by simp [c0]
          clear hor c0
          go_wp2
          go_ret
          exact ⟨by rw [HE.out]; rfl, BA.out⟩
        have u0 : (ka != (k : Int) + 1) = false := by simp [c0]
        have hor := hor.resolve_left (fun h => h c0)
        clear c0
        generalize wantB kb kc = wb at *
        cases wb with
        | false =>
          clear hor
          go_wp2_with (go_at_call 23; ((with_reducible refine (C.out _).mono ?_); rintro e w1 ⟨rfl, rfl⟩))
          go_ret
          exact ⟨by rw [HE.out]; rfl, BA.out⟩
        | true =>
          by_cases c5 : kd < 0
          · have u5 : decide (kd < 0) = true := decide_eq_true c5
            clear hor c5
            go_wp2_with (go_at_call 23; ((with_reducible refine (C.out _).mono ?_); rintro e w1 ⟨rfl, rfl⟩))
            go_ret
            exact ⟨by rw [HE.out]; rfl, BA.out⟩
          · have u5 : decide (kd < 0) = false := decide_eq_false c5
            have c6 : 2 < kd := by
              rcases hor with h | h | h
              · cases h
              · exact absurd h c5
              · exact h
            have u6 : decide (2 < kd) = true := decide_eq_true c6
            clear hor c5 c6
            go_wp2_with (go_at_call 23; ((with_reducible refine (C.out _).mono ?_); rintro e w1 ⟨rfl, rfl⟩))
            go_ret
            exact ⟨by rw [HE.out]; rfl, BA.out⟩
    · obtain rfl : k = n := by omega
      have HE := Lib.hid (right_all (l := l) (by rw [HN.out]; have := H64.out; omega) (by rw [HN.out]; exact KO.out))
      go_wp2
      go_ret
      exact ⟨by rw [HE.out]; rfl, BR.out⟩
/-- Behind an append onto a book's row. -/
theorem want_after {w w3 : World} {B h : Nat} {F : Nat → Prop} {p : Option Addr} {c : Nat} {l l2 : List Od} {o : Obj} {q : Option Addr} {d : Nat} (h1 : B ≤ h) (h2 : Lies w h 49 #[.slice p l.length c]) (h3 : w.ownsRow B 40 4 (.slice p l.length c) l.length (l.flatMap ocells)) (h4 : B ≤ w.heap.size) (hF : ∀ k, F k ↔ Feet h (.slice p l.length c) k)
    (ho : w3.ownsRow B 40 4 (.slice q (l.length + 1) d) (l.length + 1) ((l ++ l2).flatMap ocells)) (hg : (w.alloc o).grownBy w3 (Value.slice p l.length c).ownBlock) (hb : (Value.slice q (l.length + 1) d).ownBlock = (Value.slice p l.length c).ownBlock ∨ (Value.slice q (l.length + 1) d).ownBlock = some (w.alloc o).heap.size) (hl2 : l2.length = 1 := by rfl) :
    Lies w3 h 49 #[.slice p l.length c] ∧ Left DBo w B h F (l ++ l2) (w3.setCell ⟨h, 0, none⟩ (.slice q (l.length + 1) d)) := by
  have hne := own_blk_ne h3 h2 (by decide)
  have hX : Lies w3 h 49 #[.slice p l.length c] := (h2.alloc o).grown hg (fun e => hne e.symm)
  have hT : Turn (Feet h (.slice p l.length c)) w w3 := ((Turn.refl _ w).alloc o).grown hg (fun k hk => .inl (.inr hk))
  have hne2 := own_blk_ne ho hX (by decide)
  have hlen : (l ++ l2).length = l.length + 1 := by rw [List.length_append, hl2]
  refine ⟨hX, dbo_left (v' := .slice q (l.length + 1) d) hF ⟨h1, ?_, ?_, ?_⟩ (hT.setCell (.inl (.inl rfl)) _) (fun k hk => ?_)⟩
  · simpa using hX.set_ 0 (.slice q (l.length + 1) d)
  · rw [hlen]
    exact own_turn ho ((Turn.refl (fun k => k = h) w3).setCell (.inl rfl) _) (fun k hk e => hne2 (by rw [hk, e]))
  · simp only [World.setCell]
    have := hT.size
    simp
    omega
  · rcases hb with hb | hb
    · exact .inl (hb ▸ hk)
    · rw [hb] at hk
      injection hk with hk
      have : w.heap.size ≤ (w.alloc o).heap.size := by simp
      exact .inr (by omega)
theorem pnewO_any (w : World) : Calls Try.prog 7 #[] w fun e w' => ∃ h F, e = .returned (.pointer (some ⟨h, 0, none⟩)) ∧ DBo w' w.heap.size h F [] ∧ Below w.heap.size w w' := by
  have X := Lib.hid (Lies.new w 49 #[.slice none 0 0])
  have R := Lib.hid (alloc_below w (.cells #[.slice none 0 0] 49))
  go_enter Try.func7, Try.ntmps7
  go_wp2
  go_ret
  exact ⟨w.heap.size, Feet w.heap.size (.slice none 0 0), rfl, ⟨.slice none 0 0, ⟨Nat.le_refl _, X.out, World.ownsRow_nil _ _ _ _, R.out.size⟩, fun _ => Iff.rfl⟩, R.out⟩
theorem porders_any (B h : Nat) (F : Nat → Prop) (l : List Od) (w : World) (hd : DBo w B h F l) (hg : Good l) :
    Calls Try.prog 15 #[.pointer (some ⟨h, 0, none⟩)] w fun e w' => ∃ v, e = .returned v ∧ w'.ownsRow w.heap.size 40 4 v l.length (l.flatMap ocells) ∧ Below w.heap.size w w' := by
  obtain ⟨v, hp, _⟩ := hd
  obtain ⟨p, c, rfl, hc, hr⟩ := hp.read
  have l0 : w.cell? ⟨h, 0, none⟩ = some (.slice p l.length c) := hp.2.1.cell 0
  have C := Lib.hid (oclone_any p l.length c l w hr (by have := hg.len; omega))
  clear hp hr hg
  go_enter Try.func15, Try.ntmps15
  go_wp2_with fail
  refine C.out.mono ?_
  rintro e w1 ⟨v, rfl, ho, hb⟩
  have O := Lib.hid ho
  have B1 := Lib.hid hb
  clear ho hb C l0
  go_wp2
  go_ret
  exact ⟨v, rfl, O.out, B1.out⟩
theorem pof_yes (p : Option Addr) (n c : Nat) (l : List Od) (w : World) (h : Rw 4 ocells w p n l) (hc : n ≤ c) (hn : n ≤ 1000000) (hr : rightB l = true) :
    Calls Try.prog 19 #[.slice p n c] w fun e w' => ∃ h F, e = .returned (.tuple #[.pointer (some ⟨h, 0, none⟩), .int .i64 0]) ∧ DBo w' w.heap.size h F l ∧ Below w.heap.size w w' := by
  have CR := Lib.hid (pright_any p n c l w h hc hn)
  have CC := Lib.hid (fun W (hW : Below w.heap.size w W) => oclone_any p n c l W (h.keep ocells_len hW) (by rw [h.1]; exact hn))
  rw [hr] at CR
  clear h hc hn hr
  go_enter Try.func19, Try.ntmps19
  go_wp2_with fail
  refine CR.out.mono ?_
  rintro e w1 ⟨rfl, hb⟩
  have B1 := Lib.hid hb
  clear hb CR
  go_wp2_with fail
  refine (CC.out _ B1.out).mono ?_
  rintro e w2 ⟨v, rfl, ho, hb⟩
  have X := Lib.hid (Lies.new w2 49 #[v])
  have B2 := Lib.hid ((B1.out.trans (hb.mono B1.out.size)).alloc (Nat.le_trans B1.out.size hb.size) (.cells #[v] 49))
  have O := Lib.hid ((ho.alloc (.cells #[v] 49)).mono B1.out.size)
  have HS := Lib.hid (Nat.le_trans B1.out.size hb.size)
  clear ho hb CC
  obtain ⟨q, d, rfl⟩ := own_slice O.out
  go_wp2
  go_ret2
  exact ⟨w2.heap.size, Feet w2.heap.size _, rfl, ⟨_, ⟨HS.out, X.out, O.out, B2.out.size⟩, fun _ => Iff.rfl⟩, B2.out⟩
theorem pof_no (p : Option Addr) (n c : Nat) (l : List Od) (w : World) (h : Rw 4 ocells w p n l) (hc : n ≤ c) (hn : n ≤ 1000000) (hr : rightB l = false) :
    Calls Try.prog 19 #[.slice p n c] w fun e w' => e = .returned (.tuple #[.pointer none, .int .i64 1]) ∧ Below w.heap.size w w' := by
  have CR := Lib.hid (pright_any p n c l w h hc hn)
  rw [hr] at CR
  clear h hc hn hr
  go_enter Try.func19, Try.ntmps19
  go_wp2_with fail
  refine CR.out.mono ?_
  rintro e w1 ⟨rfl, hb⟩
  have B1 := Lib.hid hb
  clear hb CR
  go_wp2
  go_ret2
  exact ⟨rfl, B1.out⟩
set_option maxRecDepth 100000 in
set_option maxHeartbeats 8000000 in
theorem pwant_any (B h : Nat) (F : Nat → Prop) (l : List Od) (product units : Int) (w : World) (hd : DBo w B h F l) (hg : Good l) (_ : I64 product) (_ : I64 units) :
    Calls Try.prog 12 #[.pointer (some ⟨h, 0, none⟩), .int .i64 product, .int .i64 units] w fun e w' => e = .returned (.tuple #[.int .i64 (wantF l product units).2.1, .int .i64 (wantF l product units).2.2]) ∧ Left DBo w B h F (wantF l product units).1 w' := by
  obtain ⟨v, hp, hF⟩ := hd
  have CW := Lib.hid (fun W => mw_any product units W)
  have SAME := Lib.hid (show Left DBo w B h F l w from dbo_left hF hp (Turn.refl _ w) (fun _ hk => .inl hk))
  obtain ⟨p, c, rfl, hc, hr⟩ := hp.read
  have l0 : w.cell? ⟨h, 0, none⟩ = some (.slice p l.length c) := hp.2.1.cell 0
  have hlen := hg.len
  unfold wantF
  by_cases hw : wantB product units = true
  case neg =>
    have hw' : wantB product units = false := by simpa using hw
    rw [hw'] at CW ⊢
    clear hp hF hr hg hw hw'
    rw [if_neg (by decide)]
    go_enter Try.func12, Try.ntmps12
    go_wp2_with (go_at_call 23; ((with_reducible refine (CW.out _).mono ?_); rintro e w1 ⟨rfl, rfl⟩))
    go_ret2
    exact ⟨rfl, SAME.out⟩
  rw [hw] at CW ⊢
  rw [if_pos rfl]
  by_cases h64 : 64 ≤ l.length
  · have t0 : decide ((l.length : Int) ≥ 64) = true := by simp; omega
    have t1 : (l.length : Int) ≤ 64 := by omega
    rw [if_pos h64]
    clear hp hF hr hg hw hlen h64
    go_enter Try.func12, Try.ntmps12
    go_wp2_with (go_at_call 23; ((with_reducible refine (CW.out _).mono ?_); rintro e w1 ⟨rfl, rfl⟩))
    go_ret2
    exact ⟨rfl, SAME.out⟩
  · have t0 : decide ((l.length : Int) ≥ 64) = false := by simp; omega
    have t1 : (l.length : Int) < 64 := by omega
    rw [if_neg h64]
    obtain ⟨i0, hi0, hz0, hz1, hz2⟩ := info_parts infoO
    have OW := Lib.hid hp.2.2.1
    have XH := Lib.hid hp.2.1
    have BB := Lib.hid hp.1
    have BS := Lib.hid hp.2.2.2
    have HF := Lib.hid hF
    have h64' := Lib.hid h64
    have RO := Lib.hid (Ra.rw_one (k := 4) (enc := ocells) w 40 ⟨(l.length : Int) + 1, product, units, 0⟩)
    clear hp hF hr hg hw hlen h64 SAME
    go_enter Try.func12, Try.ntmps12
    go_wp2_with (first | (go_at_call 23; ((with_reducible refine (CW.out _).mono ?_); rintro e w1 ⟨rfl, rfl⟩)) | (at_builtin; refine Ra.wpList_app ocells_len ocells_one Try.underlying26 hi0 hz0 hz1 hz2 rfl (by decide) rfl _ _ rfl (OW.out.alloc _) rfl RO.out rfl (by unfold maxLen; have := h64'.out; omega) (by have := h64'.out; omega) (by have := BS.out; simp; omega) ?_; intro q4 d4 w3 hown2 hg2 hb2; have AP := Lib.hid (want_after BB.out XH.out OW.out BS.out HF.out hown2 hg2 hb2); have l1 : w3.cell? ⟨h, 0, none⟩ = some (.slice p l.length c) := AP.out.1.cell 0; have f1 : w3.frozen? ⟨h, 0, none⟩ = false := AP.out.1.frozen 0; clear hown2 hg2 hb2))
    go_ret2
    exact ⟨rfl, AP.out.2⟩
end Or
end Go.Proofs.Ytpkniomjohjbiaa
