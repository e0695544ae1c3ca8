/- Walks over bytes that are appended, sealed and opened, in package check and in the document's answer; no condition but those written. -/
import Derived.Test.YtpcpfcbcmenliaaW2
import Derived.Test.YtpcpfcbcmenliaaShelf
import Derived.Maps.AppendAt
import Derived.Laws.OwnMore
import Derived.Lib.AppendZeros
import Derived.OwnWalk
import Derived.Deep.Onto
namespace Go.Proofs.Ytpcpfcbcmenliaa
open Go.RowKit

/-- The bytes of a list, as cells. -/
def bys (l : List Nat) : List Value := l.map fun x => Value.int .u8 ((x : Nat) : Int)
theorem bys_length (l : List Nat) : (bys l).length = l.length := by simp [bys]
theorem bys_append (l m : List Nat) : bys (l ++ m) = bys l ++ bys m := by simp [bys]
theorem bys_at {l : List Nat} {j : Nat} (h : j < l.length) : (bys l)[j]? = some (.int .u8 ((l.getD j 0 : Nat) : Int)) := by
  simp [bys, List.getElem?_map, List.getD_eq_getElem?_getD, List.getElem?_eq_getElem h]
theorem bys_one (l : List Nat) : ∀ u ∈ bys l, u.oneCell' = true := by
  intro u hu
  obtain ⟨x, _, rfl⟩ := List.mem_map.1 hu
  rfl
theorem add_none (b o j : Nat) : (⟨b, o, none⟩ : Addr).add j = ⟨b, o + j, none⟩ := by
  unfold Addr.add
  split
  · rename_i h
    subst h
    rfl
  · rfl

theorem info5 : (Try.prog.info? 5).map (fun i => (i.zero, i.size, i.bytes)) = some (some (.int .u8 0), 1, 1) := by kernel_rfl

/-- A slice that the call owns reads as a list of bytes. -/
theorem at_own {w : World} {B : Nat} {v : Value} {n : Nat} {l : List Nat} (hl : l.length = n) (hx : ∀ x ∈ l, x < 256) (h : w.ownsRow B 5 1 v n (bys l)) :
    ∃ q c, v = .slice q n c ∧ n ≤ c ∧ At w q n l := by
  have h' := h
  rcases h.2 with ⟨rfl, rfl⟩ | ⟨g, cap, cur, rfl, _, _, hnc, _⟩
  · exact ⟨none, 0, rfl, Nat.le_refl _, hl, hx, fun h0 => absurd h0 (by omega)⟩
  · refine ⟨_, cap, rfl, hnc, hl, hx, fun _ => ⟨g, 0, rfl, fun j hj => ?_⟩⟩
    rw [Nat.zero_add, h'.cellAt j (by omega), bys_at (by omega)]

/-- append, of bytes that read as a list, onto a slice that the call owns. -/
theorem app_run {w : World} {B : Nat} {v : Value} {n : Nat} {xs : List Value} (hown : w.ownsRow B 5 1 v n xs) {p : Option Addr} {m c : Nat} {l : List Nat} (h : At w p m l)
    (hbig : n + m ≤ 70000000000000) (hb : B ≤ w.heap.size) (ty : TypeId) :
    ∃ v' w', (Builtin.append_ #[22, 22] ty #[v, .slice p m c]).run Try.prog w = .ok v' w' ∧ w'.ownsRow B 5 1 v' (n + m) (xs ++ bys l) ∧ w.grownBy w' v.ownBlock ∧ (v'.ownBlock = v.ownBlock ∨ v'.ownBlock = some w.heap.size) := by
  obtain ⟨i0, hi, hz0, hz1, hz2⟩ := info_parts info5
  obtain ⟨hl, hx, hc⟩ := h
  cases p with
  | none =>
    have hm : m = 0 := by
      rcases Nat.eq_zero_or_pos m with h0 | h0
      · exact h0
      · obtain ⟨_, _, e, _⟩ := hc h0
        cases e
    subst hm
    obtain rfl : l = [] := List.eq_nil_of_length_eq_zero hl
    refine ⟨v, w, ?_, by simpa [bys] using hown, ⟨rfl, rfl, rfl, Nat.le_refl _, fun _ _ _ => rfl⟩, .inl rfl⟩
    rcases hown.2 with ⟨rfl, rfl⟩ | ⟨g, cap, cur, rfl, _, _, hnc, _⟩
    · simp [Builtin.append_, run_underlying Try.underlying22, sizeOf, typeInfo, hi, Builtin.lenOf, Builtin.firstCells]
    · simp [Builtin.append_, run_underlying Try.underlying22, sizeOf, typeInfo, hi, Builtin.lenOf, Builtin.firstCells, hnc, storeCells]
  | some a =>
    have hcells : ∀ j u, (bys l)[j]? = some u → w.cell? (a.add j) = some u := by
      intro j u hu
      have hjl : j < (bys l).length := (List.getElem?_eq_some_iff.1 hu).1
      rw [bys_length] at hjl
      obtain ⟨b, o, e, hj⟩ := hc (by omega)
      cases e
      rw [add_none, hj j (by omega)]
      rw [bys_at hjl] at hu
      exact hu
    obtain ⟨v', w', hr, h2, h3, _, h5⟩ := run_append_own_at (P := Try.prog) w B 22 ty 5 i0 _ 1 1 Try.underlying22 hi hz0 hz1 hz2 rfl (by decide) v n xs hown a m c (bys l) (by rw [bys_length]; omega) hcells (bys_one l) (by unfold maxLen; omega) (by omega) hb
    exact ⟨v', w', hr, h2, h3, h5⟩

/-- At the operation. -/
theorem wpList_app {w : World} {ops : Array Oper} {rest : List Oper} {o : Oper} {a : Act} {Q : Exit → Act → World → Prop} (hgd : o.guard = none) (s x : Operand)
    (ho : o.op = .call { callee := .builtin .append, args := #[s, x], argTypes := #[22, 22] })
    (B : Nat) (v : Value) (n : Nat) (xs : List Value) (hs : a.eval s = v) (hown : w.ownsRow B 5 1 v n xs) (p : Option Addr) (m c : Nat) (l : List Nat) (hx : a.eval x = .slice p m c) (h : At w p m l)
    (hbig : n + m ≤ 70000000000000) (hb : B ≤ w.heap.size)
    (hK : ∀ v' w', w'.ownsRow B 5 1 v' (n + m) (xs ++ bys l) → w.grownBy w' v.ownBlock → (v'.ownBlock = v.ownBlock ∨ v'.ownBlock = some w.heap.size) → wpList Try.prog ops Q rest (a.put o.dst v') w') :
    wpList Try.prog ops Q (o :: rest) a w := by
  obtain ⟨v', w', hr, h2, h3, h4⟩ := app_run hown h (c := c) hbig hb o.type
  exact Lib.wpList_append_run w hgd s x 22 22 ho v (.slice p m c) hs hx v' w' hr (hK v' w' h2 h3 h4)

/-- Bytes, and their sum behind them. -/
@[irreducible] def tight (l : List Nat) : List Nat := l ++ [Ck.crc 65535 l / 256, Ck.crc 65535 l % 256]
theorem tight_eq (l : List Nat) : tight l = l ++ [Ck.crc 65535 l / 256, Ck.crc 65535 l % 256] := by unfold tight; rfl
theorem tight_length (l : List Nat) : (tight l).length = l.length + 2 := by rw [tight_eq]; simp
theorem tight_lt {l : List Nat} (hl : ∀ x ∈ l, x < 256) : ∀ x ∈ tight l, x < 256 := by
  have hc : Ck.crc 65535 l < 65536 := Ck.crc_lt (by decide) hl
  rw [tight_eq]
  intro x hx
  simp only [List.mem_append, List.mem_cons, List.not_mem_nil, or_false] at hx
  rcases hx with hx | rfl | rfl
  · exact hl x hx
  · omega
  · omega

theorem size_alloc (w : World) (o : Obj) : w.heap.size ≤ (w.alloc o).heap.size := by simp
theorem at_pair (w : World) (u v : Nat) (hu : u < 256) (hv : v < 256) : At (w.alloc (.cells #[.int .u8 (u : Int), .int .u8 (v : Int)] 5)) (some ⟨w.heap.size, 0, none⟩) 2 [u, v] := by
  refine ⟨rfl, ?_, fun _ => ⟨w.heap.size, 0, rfl, fun j hj => ?_⟩⟩
  · intro x hx
    simp only [List.mem_cons, List.not_mem_nil, or_false] at hx
    rcases hx with rfl | rfl
    · exact hu
    · exact hv
  · rw [Nat.zero_add, cell_of_row _ w.heap.size j _ 5 (0, 0) (heap_alloc_new w _)]
    match j, hj with
    | 0, _ => rfl
    | 1, _ => rfl
theorem below_drewN {B : Nat} {a w : World} (h : Below B a w) (n : Nat) : Below B a (w.drewN n) := ⟨h.os, h.tape, h.output, h.size, h.block⟩

set_option maxRecDepth 100000 in
set_option maxHeartbeats 1000000 in
theorem rseal_any (p : Option Addr) (n c : Nat) (l : List Nat) (w : World) (hn : n ≤ 1000000) (h : At w p n l) :
    Calls Try.prog 10 #[.slice p n c] w fun e w' => ∃ q d, e = .returned (.slice q (n + 2) d) ∧ n + 2 ≤ d ∧ At w' q (n + 2) (tight l) ∧ Below w.heap.size w w' := by
  have hx := h.2.1
  have hc : Ck.crc 65535 l < 65536 := Ck.crc_lt (by decide) hx
  have O := Lib.hid (rof_any p n c l w (by omega) h)
  have HT := Lib.hid (tight_eq l)
  have HL := Lib.hid (tight_lt hx)
  have HX := Lib.hid hx
  have HA := Lib.hid h
  clear hx h
  have q1 : (Ck.crc 65535 l : Int) / 256 = ((Ck.crc 65535 l / 256 : Nat) : Int) := by omega
  have q2 : (Ck.crc 65535 l : Int) % 256 = ((Ck.crc 65535 l % 256 : Nat) : Int) := by omega
  have r1 : Ck.crc 65535 l / 256 < 256 := by omega
  have r2 : Ck.crc 65535 l % 256 < 256 := by omega
  generalize Ck.crc 65535 l / 256 = u at *
  generalize Ck.crc 65535 l % 256 = v at *
  generalize Ck.crc 65535 l = s at *
  go_enter Try.func10, Try.ntmps10
  go_wp2_with fail
  refine O.out.mono ?_
  rintro e w1 ⟨rfl, k, rfl⟩
  have O0 : ((w.drewN k).alloc (.cells #[] 5)).ownsRow w.heap.size 5 1 (.slice (some ⟨w.heap.size, 0, none⟩) 0 0) 0 [] := World.ownsRow_made (w.drewN k) #[] 0 (Nat.le_refl _) (Nat.zero_le _) rfl
  have B0 : Below w.heap.size w ((w.drewN k).alloc (.cells #[] 5)) := (below_drewN (Below.refl _ w) k).alloc (Nat.le_refl _) _
  have A0 := HA.out.keep B0
  have O0' := Lib.hid O0
  have B0' := Lib.hid B0
  have A0' := Lib.hid A0
  clear O0 B0 A0
  go_wp2_with (first
    | (at_builtin
       refine wpList_app rfl (.tmp 6) (.tmp 7) rfl w.heap.size _ 0 [] rfl O0'.out p n c l rfl A0'.out (by omega) B0'.out.size ?_
       intro v1 w1 hown1 hg1 hat1
       have B1 := Lib.hid (B0'.out.grown hg1 B0'.out.size (fun k hk => (O0'.out.lt k hk).1))
       clear hg1 hat1)
    | (at_builtin
       refine wpList_app rfl (.tmp 8) (.tmp 15) rfl w.heap.size v1 (0 + n) ([] ++ bys l) rfl (hown1.alloc _) (some ⟨w1.heap.size, 0, none⟩) 2 2 [u, v] rfl (at_pair w1 u v r1 r2) (by omega) (Nat.le_trans B1.out.size (size_alloc _ _)) ?_
       intro v2 w2 hown2 hg2 hat2))
  go_ret
  have B2 : Below w.heap.size w w2 := (B1.out.alloc B1.out.size _).grown hg2 (Nat.le_trans B1.out.size (size_alloc _ _)) (fun k hk => (hown1.lt k hk).1)
  have e : [] ++ bys l ++ bys [u, v] = bys (tight l) := by rw [HT.out, bys_append]; rfl
  rw [e, Nat.zero_add] at hown2
  obtain ⟨q, d, hv, hd, hA⟩ := at_own (by rw [tight_length]; have := HA.out.1; omega) HL.out hown2
  exact ⟨q, d, by rw [← hv]; rfl, hd, hA, B2⟩

set_option maxRecDepth 100000 in
set_option maxHeartbeats 1000000 in
theorem grow_any (k : Nat) (w : World) (h0 : 0 < k) (hk : k ≤ 2000000) :
    Calls Try.prog 18 #[.slice none 0 0, .int .i64 (k : Int)] w fun e w' => ∃ c, e = .returned (.slice (some ⟨w.heap.size, 0, none⟩) 0 c) ∧ w'.ownsRow w.heap.size 5 1 (.slice (some ⟨w.heap.size, 0, none⟩) 0 c) 0 [] ∧ Below w.heap.size w w' := by
  obtain ⟨i0, hi, hz0, hz1, hz2⟩ := info_parts info5
  have hr := Lib.run_append_nil_zeros w 22 3 22 5 i0 _ .i64 .i64 Try.underlying22 Try.underlying3 hi hz0 k h0 (by omega) (by omega) (by rw [hz2]; omega)
  have R := Lib.hid hr
  clear hr
  have hp : (0 : Int) < (k : Int) := by omega
  go_enter Try.func18, Try.ntmps18
  go_wp2_with (at_builtin; refine Lib.wpList_append_run w rfl (.tmp 20) (.tmp 21) 22 3 rfl _ _ rfl rfl _ _ R.out ?_)
  go_ret
  have hge := grownCap_ge w k 0 5
  have hle := grownCap_le_maxLen w k 0 5 (by unfold maxLen; omega)
  refine ⟨grownCap w k 0 5, rfl, ?_, ((Below.refl _ w).alloc (Nat.le_refl _) _).drew⟩
  refine World.ownsRow_made w _ (grownCap w k 0 5) (Nat.le_refl _) hle ?_
  rw [Array.size_append, size_zeroCells, size_zeroCells]
  show k * 1 + (grownCap w k 0 5 - k) * 1 = _
  omega

theorem next_below {w wr w2 : World} {v : Value} {n : Nat} {xs : List Value} (hown : wr.ownsRow w.heap.size 5 1 v n xs) (hg : wr.grownBy w2 v.ownBlock) (hb : Below w.heap.size w wr) : Below w.heap.size w w2 :=
  hb.grown hg hb.size (fun k hk => (hown.lt k hk).1)
theorem next_cell {w wr w2 : World} {v : Value} {n : Nat} {xs : List Value} {B o : Nat} {x : Value} (hB : B < w.heap.size) (hown : wr.ownsRow w.heap.size 5 1 v n xs) (hg : wr.grownBy w2 v.ownBlock)
    (h : wr.cell? ⟨B, o, none⟩ = some x) : w2.cell? ⟨B, o, none⟩ = some x :=
  hg.cell h (fun e => by have := (hown.lt B e.symm).1; omega)

/-- Two lists of bytes in a row. -/
def Pair (w : World) (B : Nat) (p : Option Addr) (n c : Nat) (q : Option Addr) (d : Nat) : Prop :=
  w.cell? ⟨B, 0, none⟩ = some (.slice p n c) ∧ w.cell? ⟨B, 1, none⟩ = some (.slice q 2 d)

set_option maxRecDepth 100000 in
set_option maxHeartbeats 1000000 in
theorem concat_any (B n c d : Nat) (p q : Option Addr) (l m : List Nat) (w : World) (hn : n ≤ 1000000) (h : Pair w B p n c q d) (hl : At w p n l) (hm : At w q 2 m) :
    Calls Try.prog 15 #[.slice (some ⟨B, 0, none⟩) 2 2] w fun e w' => ∃ r f, e = .returned (.slice r (n + 2) f) ∧ n + 2 ≤ f ∧ At w' r (n + 2) (l ++ m) ∧ Below w.heap.size w w' := by
  obtain ⟨c0, c1⟩ := h
  have b0 : B < w.heap.size := World.block_lt_of_cell? w _ c0
  have HL := Lib.hid hl
  have HM := Lib.hid hm
  clear hl hm
  go_enter Try.func15, Try.ntmps15
  go_wp2
  go_loop [3, 11] (fun s i => (i = .int .i64 0 ∧ s = .int .i64 0) ∨ (i = .int .i64 1 ∧ s = .int .i64 n) ∨ (i = .int .i64 2 ∧ s = .int .i64 ((n : Int) + 2))) (fun _ i => 2 - (intOf i).toNat)
  case atStart => exact .inl ⟨rfl, rfl⟩
  case round =>
    rcases hrel with ⟨rfl, rfl⟩ | ⟨rfl, rfl⟩ | ⟨rfl, rfl⟩
    · go_wp2
      go_round
      case rel => exact .inr (.inl ⟨rfl, by go_num⟩)
      case measure => simp [intOf]
    · go_wp2
      go_round
      case rel => exact .inr (.inr ⟨rfl, by go_num⟩)
      case measure => simp [intOf]
    · have G := grow_any (n + 2) w (by omega) (by omega)
      have X : ((n + 2 : Nat) : Int) = (n : Int) + 2 := by omega
      rw [X] at G
      have G' := Lib.hid G
      clear G X
      go_wp2_with fail
      refine G'.out.mono ?_
      rintro e w1 ⟨f, rfl, hown, hb⟩
      have HO := Lib.hid hown
      have HB := Lib.hid hb
      have C0 := (hb.cell (p := ⟨B, 0, none⟩) b0).trans c0
      have C1 := (hb.cell (p := ⟨B, 1, none⟩) b0).trans c1
      have hz := hb.size
      clear hown hb c0 c1
      go_wp2
      go_loopw [6, 27] (fun v i wr => wr.cell? ⟨B, 0, none⟩ = some (.slice p n c) ∧ wr.cell? ⟨B, 1, none⟩ = some (.slice q 2 d) ∧ Below w.heap.size w wr ∧
        ((i = .int .i64 0 ∧ wr.ownsRow w.heap.size 5 1 v 0 []) ∨ (i = .int .i64 1 ∧ wr.ownsRow w.heap.size 5 1 v n (bys l)) ∨ (i = .int .i64 2 ∧ wr.ownsRow w.heap.size 5 1 v (n + 2) (bys (l ++ m))))) (fun _ i _ => 2 - (intOf i).toNat)
      case atStart => exact ⟨C0, C1, HB.out, .inl ⟨rfl, HO.out⟩⟩
      case round =>
        clear C0 C1 HB HO hz
        obtain ⟨k0, k1, hb, hor⟩ := hrel
        have HB := Lib.hid hb
        have hz := hb.size
        clear hb
        rcases hor with ⟨rfl, hown⟩ | ⟨rfl, hown⟩ | ⟨rfl, hown⟩
        · have HO := Lib.hid hown
          clear hown
          go_wp2_with (at_builtin; refine wpList_app rfl (.tmp 31) (.tmp 32) rfl w.heap.size _ 0 [] rfl HO.out p n c l rfl (HL.out.keep HB.out) (by omega) hz ?_; intro v2 w2 hown2 hg2 hat2)
          have HB2 := next_below HO.out hg2 HB.out
          have K0 := next_cell b0 HO.out hg2 k0
          have K1 := next_cell b0 HO.out hg2 k1
          have HO2 : w2.ownsRow w.heap.size 5 1 v2 n (bys l) := by simpa using hown2
          clear hown2 hg2 hat2 k0 k1
          go_roundw
          case rel => exact ⟨K0, K1, HB2, .inr (.inl ⟨rfl, HO2⟩)⟩
          case measure => simp [intOf]
        · have HO := Lib.hid hown
          clear hown
          go_wp2_with (at_builtin; refine wpList_app rfl (.tmp 31) (.tmp 32) rfl w.heap.size _ n (bys l) rfl HO.out q 2 d m rfl (HM.out.keep HB.out) (by omega) hz ?_; intro v2 w2 hown2 hg2 hat2)
          have HB2 := next_below HO.out hg2 HB.out
          have K0 := next_cell b0 HO.out hg2 k0
          have K1 := next_cell b0 HO.out hg2 k1
          have HO2 : w2.ownsRow w.heap.size 5 1 v2 (n + 2) (bys (l ++ m)) := by rw [bys_append]; exact hown2
          clear hown2 hg2 hat2 k0 k1
          go_roundw
          case rel => exact ⟨K0, K1, HB2, .inr (.inr ⟨rfl, HO2⟩)⟩
          case measure => simp [intOf]
        · have HO := Lib.hid hown
          clear hown
          go_wp2
          go_ret
          obtain ⟨r, f2, rfl, hd, hA⟩ := at_own (by rw [List.length_append, HL.out.1, HM.out.1]) (fun x hx => by
            rcases List.mem_append.1 hx with hx | hx
            · exact HL.out.2.1 x hx
            · exact HM.out.2.1 x hx) HO.out
          exact ⟨r, f2, rfl, hd, hA, HB.out⟩

theorem two_made (w : World) (u v : Nat) (p : Option Addr) (n c : Nat) :
    Below w.heap.size w ((w.alloc (.cells #[.int .u8 (u : Int), .int .u8 (v : Int)] 5)).alloc (.cells #[.slice p n c, .slice (some ⟨w.heap.size, 0, none⟩) 2 2] 22)) :=
  ((Below.refl _ w).alloc (Nat.le_refl _) _).alloc (size_alloc _ _) _
theorem pair_made (w : World) (u v : Nat) (p : Option Addr) (n c : Nat) :
    Pair ((w.alloc (.cells #[.int .u8 (u : Int), .int .u8 (v : Int)] 5)).alloc (.cells #[.slice p n c, .slice (some ⟨w.heap.size, 0, none⟩) 2 2] 22)) (w.heap.size + 1) p n c (some ⟨w.heap.size, 0, none⟩) 2 := by
  have e : (w.alloc (.cells #[.int .u8 (u : Int), .int .u8 (v : Int)] 5)).heap.size = w.heap.size + 1 := by simp
  have h := heap_alloc_new (w.alloc (.cells #[.int .u8 (u : Int), .int .u8 (v : Int)] 5)) (.cells #[.slice p n c, .slice (some ⟨w.heap.size, 0, none⟩) 2 2] 22)
  rw [e] at h
  constructor
  · rw [cell_of_row _ (w.heap.size + 1) 0 _ 22 (0, 0) h]
    rfl
  · rw [cell_of_row _ (w.heap.size + 1) 1 _ 22 (0, 0) h]
    rfl

set_option maxRecDepth 100000 in
set_option maxHeartbeats 1000000 in
theorem seal_any (p : Option Addr) (n c : Nat) (l : List Nat) (w : World) (hn : n ≤ 1000000) (h : At w p n l) :
    Calls Try.prog 9 #[.slice p n c] w fun e w' => ∃ q d, e = .returned (.slice q (n + 2) d) ∧ n + 2 ≤ d ∧ At w' q (n + 2) (tight l) ∧ Below w.heap.size w w' := by
  have hx := h.2.1
  have hc : Ck.crc 65535 l < 65536 := Ck.crc_lt (by decide) hx
  have O := Lib.hid (of_any p n c l w (by omega) h)
  have HT := Lib.hid (tight_eq l)
  have HX := Lib.hid hx
  have HA := Lib.hid h
  clear hx h
  have q1 : (Ck.crc 65535 l : Int) / 256 = ((Ck.crc 65535 l / 256 : Nat) : Int) := by omega
  have q2 : (Ck.crc 65535 l : Int) % 256 = ((Ck.crc 65535 l % 256 : Nat) : Int) := by omega
  have r1 : Ck.crc 65535 l / 256 < 256 := by omega
  have r2 : Ck.crc 65535 l % 256 < 256 := by omega
  generalize Ck.crc 65535 l / 256 = u at *
  generalize Ck.crc 65535 l % 256 = v at *
  generalize Ck.crc 65535 l = s at *
  go_enter Try.func9, Try.ntmps9
  go_wp2_with fail
  refine O.out.mono ?_
  rintro e w' ⟨rfl, rfl⟩
  have HL := Lib.hid (show ∀ x ∈ l ++ [u, v], x < 256 from fun x hx => by
    rcases List.mem_append.1 hx with hx | hx
    · exact HX.out x hx
    · exact (at_pair w u v r1 r2).2.1 x hx)
  have C := concat_any (w.heap.size + 1) n c 2 p (some ⟨w.heap.size, 0, none⟩) l [u, v] _ hn (pair_made w u v p n c) (HA.out.keep (two_made w u v p n c)) ((at_pair w u v r1 r2).keep ((Below.refl _ _).alloc (Nat.le_refl _) _))
  have C' := Lib.hid C
  clear C
  go_wp2_with fail
  refine C'.out.mono ?_
  rintro e w1 ⟨q, d, rfl, hd, hA, hb⟩
  have HA1 := Lib.hid hA
  have HB1 := Lib.hid hb
  clear hA hb
  go_wp2
  go_ret
  refine ⟨q, d, rfl, hd, by rw [HT.out]; exact HA1.out, ?_⟩
  exact (two_made w u v p n c).trans (HB1.out.mono (two_made w u v p n c).size)

theorem open_no (p : Option Addr) (n c : Nat) (l : List Nat) (w : World) (hbig : n ≤ 9223372036854775807) (hnc : n ≤ c) (h : At w p n l) (hg : Ck.goodB l = false) :
    Calls Try.prog 7 #[.slice p n c] w fun e w' => e = .returned (.tuple #[.slice none 0 0, .bool false]) ∧ ∃ m, w' = w.drewN m := by
  have G := Lib.hid (hg ▸ good_any p n c l w hbig hnc h)
  clear h hg
  go_enter Try.func7, Try.ntmps7
  go_wp2_with fail
  refine G.out.mono ?_
  rintro e w' ⟨rfl, k, rfl⟩
  go_wp2
  go_ret2
  exact ⟨rfl, k, rfl⟩
theorem clone_any (p : Option Addr) (n c : Nat) (l : List Nat) (w : World) (hbig : n ≤ 1000000) (h : At w p n l) :
    Calls Try.prog 14 #[.slice p n c] w fun e w' => ∃ q d, e = .returned (.slice q n d) ∧ n ≤ d ∧ At w' q n l ∧ Below w.heap.size w w' := by
  cases p with
  | none =>
    have hm : n = 0 := by
      rcases Nat.eq_zero_or_pos n with h0 | h0
      · exact h0
      · obtain ⟨_, _, e, _⟩ := h.2.2 h0
        cases e
    subst hm
    exact (Try.bytes_Clone_nil 0 c w).mono fun e w' ⟨he, hw⟩ => ⟨none, 0, he, Nat.le_refl _, hw ▸ h, hw ▸ Below.refl _ _⟩
  | some a =>
    have hl := h.1
    have hx := h.2.1
    refine (Try.bytes_Clone_at a n c (l.map fun x => ((x : Nat) : Int)) w (by simpa using hl) (by omega) (fun i hi => ?_)).mono fun e w' ⟨v, he, hown, _, hb⟩ => ?_
    · obtain ⟨b, o, e, hj⟩ := h.2.2 (by omega)
      cases e
      rw [add_none, hj i hi]
      simp [List.getD_eq_getElem?_getD, List.getElem?_map, List.getElem?_eq_getElem (show i < l.length by omega)]
    · have hown' : w'.ownsRow w.heap.size 5 1 v n (bys l) := by
        have e2 : (l.map fun x => ((x : Nat) : Int)).map (Value.int .u8) = bys l := by simp [bys]
        rwa [e2] at hown
      obtain ⟨q, d, rfl, hd, hA⟩ := at_own hl hx hown'
      exact ⟨q, d, he, hd, hA, hb⟩
set_option maxRecDepth 100000 in
theorem open_yes (p : Option Addr) (n c : Nat) (l : List Nat) (w : World) (hbig : n + 2 ≤ 1000000) (hnc : n + 2 ≤ c) (h : At w p (n + 2) l) (hg : Ck.goodB l = true) :
    Calls Try.prog 7 #[.slice p (n + 2) c] w fun e w' => ∃ q d, e = .returned (.tuple #[.slice q n d, .bool true]) ∧ n ≤ d ∧ At w' q n (l.take n) ∧ Below w.heap.size w w' := by
  have G := Lib.hid (hg ▸ good_any p (n + 2) c l w (by omega) hnc h)
  have C := fun k => clone_any p n c (l.take n) (w.drewN k) (by omega) ((h.take n (by omega)).drewN k)
  have C' := Lib.hid C
  clear h hg C
  go_enter Try.func7, Try.ntmps7
  go_wp2_with fail
  refine G.out.mono ?_
  rintro e w' ⟨rfl, k, rfl⟩
  go_wp2_with fail
  refine (C'.out k).mono ?_
  rintro e w1 ⟨q, d, rfl, hd, hA, hb⟩
  have HA := Lib.hid hA
  have HB := Lib.hid hb
  clear hA hb
  go_wp2
  go_ret2
  exact ⟨q, d, rfl, hd, HA.out, (below_drewN (Below.refl _ w) k).trans HB.out⟩
end Go.Proofs.Ytpcpfcbcmenliaa
