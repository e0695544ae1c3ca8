/- Walks over package stock: Split. No condition but those written. Walks over package stock: Merge. No condition but those written. Walks over package stock: Receive. No condition but those written. -/
import Derived.Test.YtkfmkchonlajpaaQ09
import Derived.Test.YtkfmkchonlajpaaQ05
namespace Go.Proofs.Ytkfmkchonlajpaa
open Go.RowKit Go.Maps

namespace Lo
/-- A lot of other units. -/
def reunit (y : Lv) (n : Int) : Lv := { y with x := { y.x with units := n } }
theorem pkeep_raw {B h : Nat} {mo : Option Nat} {given : Int} {L : List Lv} {w w1 : World} {i : Nat} {y y' : Lv} (hp : PL w B h mo given L) (hG : Good (lts L, given)) (hy : L[i]? = some y) (hb : Below w.heap.size w w1) (he : y'.x.id = y.x.id) (hs : St w1 y') (hk : ∀ k, Bk y' k → Bk y k) :
    Calls Try.prog 24 #[.pointer (some ⟨h, 0, none⟩), lval y'] w1 fun e w2 => e = .returned (.tuple #[]) ∧ ∃ q, (mo = some q ∨ w1.heap.size ≤ q) ∧ PL w2 B h (some q) given (L.set i y') ∧ Turn (fun k => k = h ∨ mo = some k) w1 w2 := by
  obtain ⟨h1, h2, h3, h4, h5, h6⟩ := lot_here hp hG hy
  have hL := lots_len hG
  have hlt := hp.blk.lt
  have hbase := hp.base
  have hm : Ms.In64 y'.x.id := by rw [he]; exact h4
  have hsz := hb.size
  exact pkeep_any B h mo given L (L.set i y') y' w1 (hp.keep hb) (nx_set (good_aptR hG) hy he.symm) hs hm (by omega) (fun k hk' => h3 k (hk k hk')) (by omega)
/-- The new lot of a split. -/
theorem split_add {B h : Nat} {mo : Option Nat} {given u1 u2 : Int} {L : List Lv} {w w3 w4 w5 : World} {i q b8 : Nat} {y : Lv} (hp : PL w B h mo given L) (hG : Good (lts L, given)) (hy : L[i]? = some y) (hb : Below w.heap.size w w3) (hq : mo = some q ∨ w3.heap.size ≤ q)
    (hP : PL w4 B h (some q) given (L.set i (reunit y u1))) (hT : Turn (fun k => k = h ∨ mo = some k) w3 w4) (hb8 : w.heap.size ≤ b8 ∧ b8 < w3.heap.size) (h5 : Turn (fun k => k = b8) w4 w5) :
    Calls Try.prog 43 #[.pointer (some ⟨h, 0, none⟩), lval (reunit y u2)] w5 fun e w6 => e = .returned (.int .i64 (given + 1)) ∧ LeftL w B h mo L ((lts L).set i { y.x with units := u1 } ++ [{ y.x with id := given + 1, units := u2 }], given + 1) w6 := by
  obtain ⟨h1, h2, h3, h4, _, _⟩ := lot_here hp hG hy
  have hL := lots_len hG
  have hlt := hp.blk.lt
  have hbase := hp.base
  have hgv := hG.given
  have hs5 := h5.size
  have hs4 := hT.size
  have hs3 := hb.size
  simp only at hgv
  have hkk : ∀ k, Bks (L.set i (reunit y u1)) k → Bks L k := fun k hk => (bks_set hk).elim id (fun hk => ⟨y, List.mem_of_getElem? hy, hk⟩)
  have hP5 : PL w5 B h (some q) given (L.set i (reunit y u1)) := hP.turn h5 (fun k hk e => by
    subst e
    rcases hk with hk | hk | hk
    · omega
    · have := Option.some.inj hk
      rcases hq with hq | hq
      · have := (Ms.tab_lt hp.tab hq).2
        omega
      · omega
    · have := bks_lt hp.stays (hkk _ hk)
      omega)
  have hmemS : reunit y u1 ∈ L.set i (reunit y u1) := List.mem_of_getElem? (List.getElem?_set_self (List.getElem?_eq_some_iff.1 hy).1)
  have hst : St w5 (reunit y u2) := (show St w5 (reunit y u1) from hP5.stays _ hmemS)
  refine (padd_any B h (some q) given (L.set i (reunit y u1)) (reunit y u2) w5 hP5 hst (by omega) (fun z hz => ?_) (by omega) (fun k hk => hP5.apart k ⟨_, hmemS, hk⟩) (by rw [List.length_set]; omega)).mono ?_
  · have hid : ∃ x ∈ lts L, z.x.id = x.id := by
      rcases List.mem_or_eq_of_mem_set hz with hz | rfl
      · exact ⟨z.x, List.mem_map.2 ⟨z, hz, rfl⟩, rfl⟩
      · exact ⟨y.x, List.mem_map.2 ⟨y, List.mem_of_getElem? hy, rfl⟩, rfl⟩
    obtain ⟨x, hx, e⟩ := hid
    have := (hG.low x hx).2
    simp only at this
    omega
  · rintro e w6 ⟨rfl, q', hq', hP', hT'⟩
    refine ⟨rfl, some q', _, ?_, hP', ?_, fun k e => ?_, fun k hk => ?_⟩
    · rw [lts, List.map_append, List.map_set]
      rfl
    · have t1 : Turn (fun k => k = h ∨ mo = some k) w w4 := (Turn.of_below hb).trans hT (fun i hi => .inl hi)
      have t2 : Turn (fun k => k = h ∨ mo = some k) w w5 := t1.trans h5 (fun i hi => .inr (by omega))
      refine t2.trans hT' (fun i hi => ?_)
      rcases hi with rfl | hi
      · exact .inl (.inl rfl)
      · have := Option.some.inj hi
        subst this
        exact hq.imp .inr (fun h => by omega)
    · have := Option.some.inj e
      subst this
      rcases hq' with hq' | hq'
      · have := Option.some.inj hq'
        subst this
        exact hq.imp id (fun h => by omega)
      · exact .inr (by omega)
    · rcases bks_app hk with hk | hk
      · exact .inl (hkk k hk)
      · exact .inl ⟨y, List.mem_of_getElem? hy, hk⟩
set_option maxRecDepth 100000 in
set_option maxHeartbeats 8000000 in
theorem psplit_any (B h : Nat) (mo : Option Nat) (given : Int) (L : List Lv) (id units : Int) (w : World) (hp : PL w B h mo given L) (hG : Good (lts L, given)) (hm : I64 id) :
    Calls Try.prog 19 #[.pointer (some ⟨h, 0, none⟩), .int .i64 id, .int .i64 units] w fun e w' =>
      e = .returned (.tuple #[.int .i64 (splitS (lts L, given) id units).1.1, .int .i64 ((splitS (lts L, given) id units).1.2 : Nat)]) ∧ LeftL w B h mo L (splitS (lts L, given) id units).2 w' := by
  have HE := Lib.hid (fun W (hW : Below w.heap.size w W) => leftL_same hp hW)
  cases ha : at_ id (lts L) with
  | none =>
    rw [split_none ha]
    have C := Lib.hid (plot_no hp hm ha)
    clear ha hp hG
    simp only [rval, lr0] at C
    go_enter Try.func19, Try.ntmps19
    go_wp2_with fail
    refine C.out.mono ?_
    rintro e w1 ⟨rfl, hb⟩
    have B2 := Lib.hid (hb.alloc hb.size (.cells #[.int .i64 0, .int .i64 0, .int .i64 0, .int .i64 0, .int .i64 0, .int .i64 0, .int .i64 0, .slice none 0 0] 32))
    clear hb
    go_wp2
    go_ret2
    exact ⟨rfl, HE.out _ B2.out⟩
  | some i =>
    obtain ⟨y, hy, hyx⟩ := at_of ha
    rw [split_some ha hyx]
    have C := Lib.hid (plot_yes hp hm ha hy)
    have H0 := lot_here hp hG hy
    have KP := Lib.hid (fun w1 (hb : Below w.heap.size w w1) => pkeep_raw (y' := reunit y (y.x.units - units)) (w1 := w1) hp hG hy hb rfl ((H0.1.keep hb : St w1 y)) (fun _ hk => hk))
    have AD := Lib.hid (fun w3 w4 w5 q b8 => split_add (u1 := y.x.units - units) (u2 := units) (w3 := w3) (w4 := w4) (w5 := w5) (q := q) (b8 := b8) hp hG hy)
    have CW := Lib.hid (fun W (hW : Below w.heap.size w W) => pwhere_any y W (H0.1.keep hW) H0.2.1)
    have FU := Lib.hid (fun W (hW : Below w.heap.size w W) => pfull_any h mo given W (hp.keep hW).blk)
    have hlt := Lib.hid hp.blk.lt
    have hmo : Hid (∀ k, mo = some k → k < w.heap.size) := Lib.hid (fun k e => (Ms.tab_lt hp.tab e).2)
    have hu := H0.2.2.2.2
    generalize hin : inL y.x = zi at *
    clear ha hp hG hyx H0 hy
    obtain ⟨⟨i1, i2, i3, i4, i5, i6, i7, S⟩, p, n, c⟩ := y
    simp only [lval, reunit] at *
    clear hin
    by_cases h1 : units < 1
    · rw [if_pos (.inl h1)]
      go_enter Try.func19, Try.ntmps19
      go_wp2_with fail
      refine C.out.mono ?_
      rintro e w1 ⟨rfl, hb⟩
      have B2 := Lib.hid (hb.alloc hb.size (.cells #[.int .i64 i1, .int .i64 i2, .int .i64 i3, .int .i64 i4, .int .i64 i5, .int .i64 i6, .int .i64 i7, .slice p n c] 32))
      clear hb
      go_wp2
      go_ret2
      exact ⟨rfl, HE.out _ B2.out⟩
    by_cases h2 : i3 ≤ units
    · rw [if_pos (.inr h2)]
      have h2' : decide (units ≥ i3) = true := by simpa using h2
      go_enter Try.func19, Try.ntmps19
      go_wp2_with fail
      refine C.out.mono ?_
      rintro e w1 ⟨rfl, hb⟩
      have B2 := Lib.hid (hb.alloc hb.size (.cells #[.int .i64 i1, .int .i64 i2, .int .i64 i3, .int .i64 i4, .int .i64 i5, .int .i64 i6, .int .i64 i7, .slice p n c] 32))
      have X2 := Lib.hid (Lies.new w1 32 #[.int .i64 i1, .int .i64 i2, .int .i64 i3, .int .i64 i4, .int .i64 i5, .int .i64 i6, .int .i64 i7, .slice p n c])
      clear hb
      have x2 : (w1.alloc (.cells #[.int .i64 i1, .int .i64 i2, .int .i64 i3, .int .i64 i4, .int .i64 i5, .int .i64 i6, .int .i64 i7, .slice p n c] 32)).cell? ⟨w1.heap.size, 2, none⟩ = some (.int .i64 i3) := X2.out.cell 2
      go_wp2
      go_ret2
      exact ⟨rfl, HE.out _ B2.out⟩
    rw [if_neg (fun h => h.elim h1 h2)]
    have h2' : decide (units ≥ i3) = false := by simp; omega
    by_cases h3 : zi = 0
    · rw [if_pos h3]
      subst h3
      go_enter Try.func19, Try.ntmps19
      go_wp2_with fail
      refine C.out.mono ?_
      rintro e w1 ⟨rfl, hb⟩
      have B2 := Lib.hid (hb.alloc hb.size (.cells #[.int .i64 i1, .int .i64 i2, .int .i64 i3, .int .i64 i4, .int .i64 i5, .int .i64 i6, .int .i64 i7, .slice p n c] 32))
      have X2 := Lib.hid (Lies.new w1 32 #[.int .i64 i1, .int .i64 i2, .int .i64 i3, .int .i64 i4, .int .i64 i5, .int .i64 i6, .int .i64 i7, .slice p n c])
      clear hb
      go_upto_region 4 with fail
      generalize w1.alloc (.cells #[.int .i64 i1, .int .i64 i2, .int .i64 i3, .int .i64 i4, .int .i64 i5, .int .i64 i6, .int .i64 i7, .slice p n c] 32) = w2 at *
      have x0 : w2.cell? ⟨w1.heap.size, 0, none⟩ = some (.int .i64 i1) := X2.out.cell 0
      have x1 : w2.cell? ⟨w1.heap.size, 1, none⟩ = some (.int .i64 i2) := X2.out.cell 1
      have x2 : w2.cell? ⟨w1.heap.size, 2, none⟩ = some (.int .i64 i3) := X2.out.cell 2
      have x3 : w2.cell? ⟨w1.heap.size, 3, none⟩ = some (.int .i64 i4) := X2.out.cell 3
      have x4 : w2.cell? ⟨w1.heap.size, 4, none⟩ = some (.int .i64 i5) := X2.out.cell 4
      have x5 : w2.cell? ⟨w1.heap.size, 5, none⟩ = some (.int .i64 i6) := X2.out.cell 5
      have x6 : w2.cell? ⟨w1.heap.size, 6, none⟩ = some (.int .i64 i7) := X2.out.cell 6
      have x7 : w2.cell? ⟨w1.heap.size, 7, none⟩ = some (.slice p n c) := X2.out.cell 7
      go_wp2_with fail
      refine (CW.out _ B2.out).mono ?_
      rintro e w3 ⟨rfl, hb⟩
      have B3 := Lib.hid (B2.out.trans (hb.mono B2.out.size))
      go_wp2
      go_ret2
      exact ⟨rfl, HE.out _ B3.out⟩
    rw [if_neg h3]
    have h3' : (zi == 0) = false := by simp [h3]
    by_cases h4 : 256 ≤ given
    · rw [if_pos h4]
      simp only [decide_eq_true h4] at FU
      go_enter Try.func19, Try.ntmps19
      go_wp2_with fail
      refine C.out.mono ?_
      rintro e w1 ⟨rfl, hb⟩
      have B2 := Lib.hid (hb.alloc hb.size (.cells #[.int .i64 i1, .int .i64 i2, .int .i64 i3, .int .i64 i4, .int .i64 i5, .int .i64 i6, .int .i64 i7, .slice p n c] 32))
      have X2 := Lib.hid (Lies.new w1 32 #[.int .i64 i1, .int .i64 i2, .int .i64 i3, .int .i64 i4, .int .i64 i5, .int .i64 i6, .int .i64 i7, .slice p n c])
      clear hb
      go_upto_region 4 with fail
      generalize w1.alloc (.cells #[.int .i64 i1, .int .i64 i2, .int .i64 i3, .int .i64 i4, .int .i64 i5, .int .i64 i6, .int .i64 i7, .slice p n c] 32) = w2 at *
      have x0 : w2.cell? ⟨w1.heap.size, 0, none⟩ = some (.int .i64 i1) := X2.out.cell 0
      have x1 : w2.cell? ⟨w1.heap.size, 1, none⟩ = some (.int .i64 i2) := X2.out.cell 1
      have x2 : w2.cell? ⟨w1.heap.size, 2, none⟩ = some (.int .i64 i3) := X2.out.cell 2
      have x3 : w2.cell? ⟨w1.heap.size, 3, none⟩ = some (.int .i64 i4) := X2.out.cell 3
      have x4 : w2.cell? ⟨w1.heap.size, 4, none⟩ = some (.int .i64 i5) := X2.out.cell 4
      have x5 : w2.cell? ⟨w1.heap.size, 5, none⟩ = some (.int .i64 i6) := X2.out.cell 5
      have x6 : w2.cell? ⟨w1.heap.size, 6, none⟩ = some (.int .i64 i7) := X2.out.cell 6
      have x7 : w2.cell? ⟨w1.heap.size, 7, none⟩ = some (.slice p n c) := X2.out.cell 7
      go_wp2_with fail
      refine (CW.out _ B2.out).mono ?_
      rintro e w3 ⟨rfl, hb⟩
      have B3 := Lib.hid (B2.out.trans (hb.mono B2.out.size))
      clear hb
      go_wp2_with fail
      refine (FU.out _ B3.out).mono ?_
      rintro e w' ⟨rfl, rfl⟩
      go_wp2
      go_ret2
      exact ⟨rfl, HE.out _ B3.out⟩
    rw [if_neg h4]
    simp only [decide_eq_false h4] at FU
    have iw : IntKind.i64.wrap (i3 - units) = i3 - units := IntWalk.i64_in _ (by omega)
    go_enter Try.func19, Try.ntmps19
    go_wp2_with fail
    refine C.out.mono ?_
    rintro e w1 ⟨rfl, hb⟩
    have B2 := Lib.hid (hb.alloc hb.size (.cells #[.int .i64 i1, .int .i64 i2, .int .i64 i3, .int .i64 i4, .int .i64 i5, .int .i64 i6, .int .i64 i7, .slice p n c] 32))
    have X2 := Lib.hid (Lies.new w1 32 #[.int .i64 i1, .int .i64 i2, .int .i64 i3, .int .i64 i4, .int .i64 i5, .int .i64 i6, .int .i64 i7, .slice p n c])
    have HW := Lib.hid hb.size
    clear hb
    go_upto_region 4 with fail
    generalize w1.alloc (.cells #[.int .i64 i1, .int .i64 i2, .int .i64 i3, .int .i64 i4, .int .i64 i5, .int .i64 i6, .int .i64 i7, .slice p n c] 32) = w2 at *
    have x0 : w2.cell? ⟨w1.heap.size, 0, none⟩ = some (.int .i64 i1) := X2.out.cell 0
    have x1 : w2.cell? ⟨w1.heap.size, 1, none⟩ = some (.int .i64 i2) := X2.out.cell 1
    have x2 : w2.cell? ⟨w1.heap.size, 2, none⟩ = some (.int .i64 i3) := X2.out.cell 2
    have x3 : w2.cell? ⟨w1.heap.size, 3, none⟩ = some (.int .i64 i4) := X2.out.cell 3
    have x4 : w2.cell? ⟨w1.heap.size, 4, none⟩ = some (.int .i64 i5) := X2.out.cell 4
    have x5 : w2.cell? ⟨w1.heap.size, 5, none⟩ = some (.int .i64 i6) := X2.out.cell 5
    have x6 : w2.cell? ⟨w1.heap.size, 6, none⟩ = some (.int .i64 i7) := X2.out.cell 6
    have x7 : w2.cell? ⟨w1.heap.size, 7, none⟩ = some (.slice p n c) := X2.out.cell 7
    go_wp2_with fail
    refine (CW.out _ B2.out).mono ?_
    rintro e w3 ⟨rfl, hb⟩
    have B3 := Lib.hid (B2.out.trans (hb.mono B2.out.size))
    have X3 := Lib.hid (X2.out.below hb X2.out.lt)
    clear hb x0 x1 x2 x3 x4 x5 x6 x7
    go_wp2_with fail
    refine (FU.out _ B3.out).mono ?_
    rintro e w' ⟨rfl, rfl⟩
    have x2 : w'.cell? ⟨w1.heap.size, 2, none⟩ = some (.int .i64 i3) := X3.out.cell 2
    have g2 := X3.out.frozen 2
    go_upto_region 11 with fail
    have X4 : Hid (Lies (w'.setCell ⟨w1.heap.size, 2, none⟩ (.int .i64 (i3 - units))) w1.heap.size 32 #[.int .i64 i1, .int .i64 i2, .int .i64 (i3 - units), .int .i64 i4, .int .i64 i5, .int .i64 i6, .int .i64 i7, .slice p n c]) := Lib.hid (by simpa using X3.out.set_ 2 (.int .i64 (i3 - units)))
    have B4 := Lib.hid (B3.out.setCell (p := ⟨w1.heap.size, 2, none⟩) HW.out (.int .i64 (i3 - units)))
    generalize w'.setCell ⟨w1.heap.size, 2, none⟩ (.int .i64 (i3 - units)) = w4 at *
    clear x2 g2
    have x0 : w4.cell? ⟨w1.heap.size, 0, none⟩ = some (.int .i64 i1) := X4.out.cell 0
    have x1 : w4.cell? ⟨w1.heap.size, 1, none⟩ = some (.int .i64 i2) := X4.out.cell 1
    have x2 : w4.cell? ⟨w1.heap.size, 2, none⟩ = some (.int .i64 (i3 - units)) := X4.out.cell 2
    have x3 : w4.cell? ⟨w1.heap.size, 3, none⟩ = some (.int .i64 i4) := X4.out.cell 3
    have x4 : w4.cell? ⟨w1.heap.size, 4, none⟩ = some (.int .i64 i5) := X4.out.cell 4
    have x5 : w4.cell? ⟨w1.heap.size, 5, none⟩ = some (.int .i64 i6) := X4.out.cell 5
    have x6 : w4.cell? ⟨w1.heap.size, 6, none⟩ = some (.int .i64 i7) := X4.out.cell 6
    have x7 : w4.cell? ⟨w1.heap.size, 7, none⟩ = some (.slice p n c) := X4.out.cell 7
    go_wp2_with fail
    refine (KP.out w4 B4.out).mono ?_
    rintro e w5 ⟨rfl, q, hq, hP, hT⟩
    have X5 := Lib.hid (X4.out.turn hT (fun hh => by
      have h1 := hlt.out
      have h2 := HW.out
      rcases hh with hh | hh
      · omega
      · have := hmo.out _ hh
        omega))
    have hx4 := X4.out.lt
    have KK := Lib.hid (fun w6 (h6 : Turn (fun k => k = w1.heap.size) w5 w6) => AD.out w4 w5 w6 q w1.heap.size B4.out hq hP hT ⟨HW.out, hx4⟩ h6)
    clear x0 x1 x2 x3 x4 x5 x6 x7 hq hP hT hx4
    have x2 : w5.cell? ⟨w1.heap.size, 2, none⟩ = some (.int .i64 (i3 - units)) := X5.out.cell 2
    have g2 := X5.out.frozen 2
    go_upto_region 13 with fail
    have X6 : Hid (Lies (w5.setCell ⟨w1.heap.size, 2, none⟩ (.int .i64 units)) w1.heap.size 32 #[.int .i64 i1, .int .i64 i2, .int .i64 units, .int .i64 i4, .int .i64 i5, .int .i64 i6, .int .i64 i7, .slice p n c]) := Lib.hid (by simpa using X5.out.set_ 2 (.int .i64 units))
    have K6 := Lib.hid (KK.out _ ((Turn.refl (fun k => k = w1.heap.size) w5).setCell (p := ⟨w1.heap.size, 2, none⟩) (.inl rfl) (.int .i64 units)))
    generalize w5.setCell ⟨w1.heap.size, 2, none⟩ (.int .i64 units) = w6 at *
    clear x2 g2
    have x0 : w6.cell? ⟨w1.heap.size, 0, none⟩ = some (.int .i64 i1) := X6.out.cell 0
    have x1 : w6.cell? ⟨w1.heap.size, 1, none⟩ = some (.int .i64 i2) := X6.out.cell 1
    have x2 : w6.cell? ⟨w1.heap.size, 2, none⟩ = some (.int .i64 units) := X6.out.cell 2
    have x3 : w6.cell? ⟨w1.heap.size, 3, none⟩ = some (.int .i64 i4) := X6.out.cell 3
    have x4 : w6.cell? ⟨w1.heap.size, 4, none⟩ = some (.int .i64 i5) := X6.out.cell 4
    have x5 : w6.cell? ⟨w1.heap.size, 5, none⟩ = some (.int .i64 i6) := X6.out.cell 5
    have x6 : w6.cell? ⟨w1.heap.size, 6, none⟩ = some (.int .i64 i7) := X6.out.cell 6
    have x7 : w6.cell? ⟨w1.heap.size, 7, none⟩ = some (.slice p n c) := X6.out.cell 7
    go_wp2_with fail
    refine K6.out.mono ?_
    rintro e w7 ⟨rfl, hl⟩
    go_wp2
    go_ret2
    exact ⟨rfl, hl⟩
end Lo
end Go.Proofs.Ytkfmkchonlajpaa

namespace Go.Proofs.Ytkfmkchonlajpaa
open Go.RowKit Go.Maps

namespace Lo
/-- What is left of lots when one is deleted. -/
theorem merge_end {B h : Nat} {mo : Option Nat} {given : Int} {L : List Lv} {w w3 w4 w5 : World} {i k q : Nat} {y y' : Lv} {s' : Stk} (hy : L[i]? = some y) (hkk : ∀ k, Bk y' k → Bk y k) (hq : mo = some q ∨ w3.heap.size ≤ q) (hb : Below w.heap.size w w3)
    (hP : PL w4 B h (some q) given (L.set i y')) (hT : Turn (fun k => k = h ∨ mo = some k) w3 w4) {D : DataW Unit} (hown : w5.ownsMap Try.prog 3 (Ms.rdF Lf) q ((L.set i y').map raw).length D) (hM : Ms.Mp Lf Lr.id D (((L.set i y').eraseIdx k).map raw)) (hBq : B ≤ q) (h5 : w4.mapTurned w5 q)
    (hs : s' = (((lts L).set i y'.x).eraseIdx k, given)) : LeftL w B h mo L s' w5 := by
  subst hs
  have hg := h5.grown
  have hTT : Turn (fun k => k = q) w4 w5 := (Turn.refl (fun k => k = q) w4).grown hg (fun k hk => .inl (Option.some.inj hk).symm)
  have hsub : ∀ z ∈ (L.set i y').eraseIdx k, z ∈ L.set i y' := fun z hz => (List.eraseIdx_sublist _ _).mem hz
  have hsz := hb.size
  have hne : h ≠ q := fun e => Ms.tab_ne hP.tab hP.blk (by rw [e])
  refine ⟨some q, (L.set i y').eraseIdx k, ?_, ⟨hP.base, hP.blk.turn hTT hne, .inr ⟨q, D, rfl, hBq, ?_, hM⟩, fun z hz => ?_, fun j hj => ?_⟩, ?_, fun j e => ?_, fun j hj => ?_⟩
  · rw [lts_erase, lts_set]
  · have := Ms.own_tight hown
    rw [hM.size] at this
    exact this
  · exact (hP.stays z (hsub z hz)).turn hTT (fun k hk e => (hP.apart k ⟨z, hsub z hz, hk⟩).2.2 (by rw [e]))
  · obtain ⟨z, hz, hj⟩ := hj
    exact hP.apart j ⟨z, hsub z hz, hj⟩
  · refine ((Turn.of_below hb).trans hT (fun i hi => .inl hi)).trans hTT (fun i hi => ?_)
    subst hi
    exact hq.imp .inr (fun h => Nat.le_trans hsz h)
  · have := Option.some.inj e
    subst this
    exact hq.imp id (fun h => Nat.le_trans hsz h)
  · obtain ⟨z, hz, hj⟩ := hj
    rcases List.mem_or_eq_of_mem_set (hsub z hz) with hz | rfl
    · exact .inl ⟨z, hz, hj⟩
    · exact .inl ⟨y, List.mem_of_getElem? hy, hkk j hj⟩
theorem raws_erase (L : List Lv) (k : Nat) : (L.map raw).eraseIdx k = (L.eraseIdx k).map raw := by
  rw [List.eraseIdx_eq_take_drop_succ, List.eraseIdx_eq_take_drop_succ, List.map_append, List.map_take, List.map_drop]
theorem merge_id {L : List Lt} {into frm : Int} {i k : Nat} (ha : at_ into L = some i) (hb : at_ frm L = some k) : i = k ↔ into = frm := by
  constructor
  · intro e
    subst e
    obtain ⟨x, hx, h1⟩ := at_some ha
    obtain ⟨z, hz, h2⟩ := at_some hb
    rw [hx] at hz
    rw [← h1, ← h2, Option.some.inj hz]
  · intro e
    subst e
    rw [ha] at hb
    exact Option.some.inj hb
set_option maxRecDepth 100000 in
set_option maxHeartbeats 8000000 in
theorem pmerge_none (B h : Nat) (mo : Option Nat) (given : Int) (L : List Lv) (into frm : Int) (w : World) (hp : PL w B h mo given L) (hm : I64 into) (hm2 : I64 frm) (hno : at_ into (lts L) = none ∨ at_ frm (lts L) = none) :
    Calls Try.prog 21 #[.pointer (some ⟨h, 0, none⟩), .int .i64 into, .int .i64 frm] w fun e w' =>
      e = .returned (.int .i64 ((mergeS (lts L, given) into frm).1 : Nat)) ∧ LeftL w B h mo L (mergeS (lts L, given) into frm).2 w' := by
  have HE := Lib.hid (fun W (hW : Below w.heap.size w W) => leftL_same hp hW)
  rw [merge_none hno]
  cases ha : at_ into (lts L) with
  | none =>
    have C := Lib.hid (plot_no hp hm ha)
    clear ha hp hno
    simp only [rval, lr0] at C
    go_enter Try.func21, Try.ntmps21
    go_wp2_with fail
    refine C.out.mono ?_
    rintro e w1 ⟨rfl, hb⟩
    have B2 := Lib.hid (hb.alloc hb.size (.cells #[.int .i64 0, .int .i64 0, .int .i64 0, .int .i64 0, .int .i64 0, .int .i64 0, .int .i64 0, .slice none 0 0] 32))
    clear hb
    go_wp2
    go_ret
    exact ⟨rfl, HE.out _ B2.out⟩
  | some i =>
    have hf : at_ frm (lts L) = none := hno.resolve_left (by rw [ha]; simp)
    obtain ⟨y, hy, hyx⟩ := at_of ha
    have C := Lib.hid (plot_yes hp hm ha hy)
    have C2 := Lib.hid (fun W (hW : Below w.heap.size w W) => plot_no (hp.keep hW) hm2 hf)
    clear ha hp hno hf hy hyx
    simp only [rval, lr0] at C2
    obtain ⟨⟨i1, i2, i3, i4, i5, i6, i7, S⟩, p, n, c⟩ := y
    simp only [lval] at C
    go_enter Try.func21, Try.ntmps21
    go_wp2_with fail
    refine C.out.mono ?_
    rintro e w1 ⟨rfl, hb⟩
    have B2 := Lib.hid (hb.alloc hb.size (.cells #[.int .i64 i1, .int .i64 i2, .int .i64 i3, .int .i64 i4, .int .i64 i5, .int .i64 i6, .int .i64 i7, .slice p n c] 32))
    clear hb
    go_wp2_with fail
    refine (C2.out _ B2.out).mono ?_
    rintro e w3 ⟨rfl, hb⟩
    have B3 := Lib.hid (B2.out.trans (hb.mono B2.out.size))
    have B4 := Lib.hid (B3.out.alloc B3.out.size (.cells #[.int .i64 0, .int .i64 0, .int .i64 0, .int .i64 0, .int .i64 0, .int .i64 0, .int .i64 0, .slice none 0 0] 32))
    clear hb
    go_wp2
    go_ret
    exact ⟨rfl, HE.out _ B4.out⟩
set_option maxRecDepth 100000 in
set_option maxHeartbeats 16000000 in
theorem pmerge_some (B h : Nat) (mo : Option Nat) (given : Int) (L : List Lv) (into frm : Int) (w : World) (hp : PL w B h mo given L) (hG : Good (lts L, given)) (hm : I64 into) (hm2 : I64 frm) (i k : Nat) (y z : Lv) (ha : at_ into (lts L) = some i) (hb : at_ frm (lts L) = some k) (hy : L[i]? = some y) (hyx : (lts L)[i]? = some y.x) (hz : L[k]? = some z) (hzx : (lts L)[k]? = some z.x) :
    Calls Try.prog 21 #[.pointer (some ⟨h, 0, none⟩), .int .i64 into, .int .i64 frm] w fun e w' =>
      e = .returned (.int .i64 ((mergeS (lts L, given) into frm).1 : Nat)) ∧ LeftL w B h mo L (mergeS (lts L, given) into frm).2 w' := by
  have HE := Lib.hid (fun W (hW : Below w.heap.size w W) => leftL_same hp hW)
  rw [merge_some (s := (lts L, given)) ha hb hyx hzx]
  have C1 := Lib.hid (fun W (hW : Below w.heap.size w W) => plot_yes (hp.keep hW) hm ha hy)
  have C2 := Lib.hid (fun W (hW : Below w.heap.size w W) => plot_yes (hp.keep hW) hm2 hb hz)
  have H0 := lot_here hp hG hy
  have H1 := lot_here hp hG hz
  have hik := merge_id ha hb
  have hidz : z.x.id = frm := by
    obtain ⟨x, hx, e⟩ := at_some hb
    rw [hzx] at hx
    rw [Option.some.inj hx]
    exact e
  by_cases h1 : i = k
  · rw [if_pos h1]
    have hif : into = frm := hik.1 h1
    have hif2 : (into == frm) = true := by simp [hif]
    clear ha hb hy hyx hz hzx hp hG H0 H1 hik hidz h1 hif
    obtain ⟨⟨i1, i2, i3, i4, i5, i6, i7, S⟩, p, n, c⟩ := y
    obtain ⟨⟨j1, j2, j3, j4, j5, j6, j7, S2⟩, q2, n2, c2⟩ := z
    simp only [lval] at *
    go_enter Try.func21, Try.ntmps21
    go_wp2_with fail
    refine (C1.out _ (Below.refl _ _)).mono ?_
    rintro e w1 ⟨rfl, hb⟩
    have B2 := Lib.hid (hb.alloc hb.size (.cells #[.int .i64 i1, .int .i64 i2, .int .i64 i3, .int .i64 i4, .int .i64 i5, .int .i64 i6, .int .i64 i7, .slice p n c] 32))
    have X2 := Lib.hid (Lies.new w1 32 #[.int .i64 i1, .int .i64 i2, .int .i64 i3, .int .i64 i4, .int .i64 i5, .int .i64 i6, .int .i64 i7, .slice p n c])
    have HW := Lib.hid hb.size
    clear hb
    go_upto_region 4 with fail
    generalize w1.alloc (.cells #[.int .i64 i1, .int .i64 i2, .int .i64 i3, .int .i64 i4, .int .i64 i5, .int .i64 i6, .int .i64 i7, .slice p n c] 32) = w2 at *
    go_wp2_with fail
    refine (C2.out _ B2.out).mono ?_
    rintro e w3 ⟨rfl, hb⟩
    have B3 := Lib.hid (B2.out.trans (hb.mono B2.out.size))
    have X3 := Lib.hid (X2.out.below hb X2.out.lt)
    have B4 := Lib.hid (B3.out.alloc B3.out.size (.cells #[.int .i64 j1, .int .i64 j2, .int .i64 j3, .int .i64 j4, .int .i64 j5, .int .i64 j6, .int .i64 j7, .slice q2 n2 c2] 32))
    have X4 := Lib.hid (X3.out.alloc (.cells #[.int .i64 j1, .int .i64 j2, .int .i64 j3, .int .i64 j4, .int .i64 j5, .int .i64 j6, .int .i64 j7, .slice q2 n2 c2] 32))
    have Y4 := Lib.hid (Lies.new w3 32 #[.int .i64 j1, .int .i64 j2, .int .i64 j3, .int .i64 j4, .int .i64 j5, .int .i64 j6, .int .i64 j7, .slice q2 n2 c2])
    have HW3 := Lib.hid (Nat.lt_of_lt_of_le X2.out.lt hb.size)
    clear hb X2 X3
    go_upto_region 5 with fail
    generalize w3.alloc (.cells #[.int .i64 j1, .int .i64 j2, .int .i64 j3, .int .i64 j4, .int .i64 j5, .int .i64 j6, .int .i64 j7, .slice q2 n2 c2] 32) = w4 at *
    go_wp2
    go_ret
    exact ⟨rfl, HE.out _ B4.out⟩
  rw [if_neg h1]
  have hif : ¬ into = frm := fun e => h1 (hik.2 e)
  have hif2 : (into == frm) = false := by simp [hif]
  clear hif
  have CW := Lib.hid (fun W (hW : Below w.heap.size w W) => pwhere_any y W (H0.1.keep hW) H0.2.1)
  have CA := Lib.hid (fun W (hW : Below w.heap.size w W) => palike_any y z W (H0.1.keep hW) (H1.1.keep hW) H0.2.1)
  by_cases h2 : inL y.x = 0
  · rw [if_pos h2]
    rw [h2] at CW
    clear ha hb hy hyx hz hzx hp hG H0 H1 hik hidz h1 h2 CA
    obtain ⟨⟨i1, i2, i3, i4, i5, i6, i7, S⟩, p, n, c⟩ := y
    obtain ⟨⟨j1, j2, j3, j4, j5, j6, j7, S2⟩, q2, n2, c2⟩ := z
    simp only [lval] at *
    go_enter Try.func21, Try.ntmps21
    go_wp2_with fail
    refine (C1.out _ (Below.refl _ _)).mono ?_
    rintro e w1 ⟨rfl, hb⟩
    have B2 := Lib.hid (hb.alloc hb.size (.cells #[.int .i64 i1, .int .i64 i2, .int .i64 i3, .int .i64 i4, .int .i64 i5, .int .i64 i6, .int .i64 i7, .slice p n c] 32))
    have X2 := Lib.hid (Lies.new w1 32 #[.int .i64 i1, .int .i64 i2, .int .i64 i3, .int .i64 i4, .int .i64 i5, .int .i64 i6, .int .i64 i7, .slice p n c])
    have HW := Lib.hid hb.size
    clear hb
    go_upto_region 4 with fail
    generalize w1.alloc (.cells #[.int .i64 i1, .int .i64 i2, .int .i64 i3, .int .i64 i4, .int .i64 i5, .int .i64 i6, .int .i64 i7, .slice p n c] 32) = w2 at *
    go_wp2_with fail
    refine (C2.out _ B2.out).mono ?_
    rintro e w3 ⟨rfl, hb⟩
    have B3 := Lib.hid (B2.out.trans (hb.mono B2.out.size))
    have X3 := Lib.hid (X2.out.below hb X2.out.lt)
    have B4 := Lib.hid (B3.out.alloc B3.out.size (.cells #[.int .i64 j1, .int .i64 j2, .int .i64 j3, .int .i64 j4, .int .i64 j5, .int .i64 j6, .int .i64 j7, .slice q2 n2 c2] 32))
    have X4 := Lib.hid (X3.out.alloc (.cells #[.int .i64 j1, .int .i64 j2, .int .i64 j3, .int .i64 j4, .int .i64 j5, .int .i64 j6, .int .i64 j7, .slice q2 n2 c2] 32))
    have Y4 := Lib.hid (Lies.new w3 32 #[.int .i64 j1, .int .i64 j2, .int .i64 j3, .int .i64 j4, .int .i64 j5, .int .i64 j6, .int .i64 j7, .slice q2 n2 c2])
    have HW3 := Lib.hid (Nat.lt_of_lt_of_le X2.out.lt hb.size)
    clear hb X2 X3
    go_upto_region 5 with fail
    generalize w3.alloc (.cells #[.int .i64 j1, .int .i64 j2, .int .i64 j3, .int .i64 j4, .int .i64 j5, .int .i64 j6, .int .i64 j7, .slice q2 n2 c2] 32) = w4 at *
    have x0 : w4.cell? ⟨w1.heap.size, 0, none⟩ = some (.int .i64 i1) := X4.out.cell 0
    have x1 : w4.cell? ⟨w1.heap.size, 1, none⟩ = some (.int .i64 i2) := X4.out.cell 1
    have x2 : w4.cell? ⟨w1.heap.size, 2, none⟩ = some (.int .i64 i3) := X4.out.cell 2
    have x3 : w4.cell? ⟨w1.heap.size, 3, none⟩ = some (.int .i64 i4) := X4.out.cell 3
    have x4 : w4.cell? ⟨w1.heap.size, 4, none⟩ = some (.int .i64 i5) := X4.out.cell 4
    have x5 : w4.cell? ⟨w1.heap.size, 5, none⟩ = some (.int .i64 i6) := X4.out.cell 5
    have x6 : w4.cell? ⟨w1.heap.size, 6, none⟩ = some (.int .i64 i7) := X4.out.cell 6
    have x7 : w4.cell? ⟨w1.heap.size, 7, none⟩ = some (.slice p n c) := X4.out.cell 7
    go_wp2_with fail
    refine (CW.out _ B4.out).mono ?_
    rintro e w5 ⟨rfl, hb⟩
    have B5 := Lib.hid (B4.out.trans (hb.mono B4.out.size))
    go_wp2
    go_ret
    exact ⟨rfl, HE.out _ B5.out⟩
  rw [if_neg h2]
  have h2' : (inL y.x == 0) = false := by simp [h2]
  generalize inL y.x = zi at *
  by_cases h3 : alikeB y.x z.x = false
  · rw [if_pos h3]
    rw [h3] at CA
    clear ha hb hy hyx hz hzx hp hG H0 H1 hik hidz h1 h2 h3
    obtain ⟨⟨i1, i2, i3, i4, i5, i6, i7, S⟩, p, n, c⟩ := y
    obtain ⟨⟨j1, j2, j3, j4, j5, j6, j7, S2⟩, q2, n2, c2⟩ := z
    simp only [lval] at *
    go_enter Try.func21, Try.ntmps21
    go_wp2_with fail
    refine (C1.out _ (Below.refl _ _)).mono ?_
    rintro e w1 ⟨rfl, hb⟩
    have B2 := Lib.hid (hb.alloc hb.size (.cells #[.int .i64 i1, .int .i64 i2, .int .i64 i3, .int .i64 i4, .int .i64 i5, .int .i64 i6, .int .i64 i7, .slice p n c] 32))
    have X2 := Lib.hid (Lies.new w1 32 #[.int .i64 i1, .int .i64 i2, .int .i64 i3, .int .i64 i4, .int .i64 i5, .int .i64 i6, .int .i64 i7, .slice p n c])
    have HW := Lib.hid hb.size
    clear hb
    go_upto_region 4 with fail
    generalize w1.alloc (.cells #[.int .i64 i1, .int .i64 i2, .int .i64 i3, .int .i64 i4, .int .i64 i5, .int .i64 i6, .int .i64 i7, .slice p n c] 32) = w2 at *
    go_wp2_with fail
    refine (C2.out _ B2.out).mono ?_
    rintro e w3 ⟨rfl, hb⟩
    have B3 := Lib.hid (B2.out.trans (hb.mono B2.out.size))
    have X3 := Lib.hid (X2.out.below hb X2.out.lt)
    have B4 := Lib.hid (B3.out.alloc B3.out.size (.cells #[.int .i64 j1, .int .i64 j2, .int .i64 j3, .int .i64 j4, .int .i64 j5, .int .i64 j6, .int .i64 j7, .slice q2 n2 c2] 32))
    have X4 := Lib.hid (X3.out.alloc (.cells #[.int .i64 j1, .int .i64 j2, .int .i64 j3, .int .i64 j4, .int .i64 j5, .int .i64 j6, .int .i64 j7, .slice q2 n2 c2] 32))
    have Y4 := Lib.hid (Lies.new w3 32 #[.int .i64 j1, .int .i64 j2, .int .i64 j3, .int .i64 j4, .int .i64 j5, .int .i64 j6, .int .i64 j7, .slice q2 n2 c2])
    have HW3 := Lib.hid (Nat.lt_of_lt_of_le X2.out.lt hb.size)
    clear hb X2 X3
    go_upto_region 5 with fail
    generalize w3.alloc (.cells #[.int .i64 j1, .int .i64 j2, .int .i64 j3, .int .i64 j4, .int .i64 j5, .int .i64 j6, .int .i64 j7, .slice q2 n2 c2] 32) = w4 at *
    have x0 : w4.cell? ⟨w1.heap.size, 0, none⟩ = some (.int .i64 i1) := X4.out.cell 0
    have x1 : w4.cell? ⟨w1.heap.size, 1, none⟩ = some (.int .i64 i2) := X4.out.cell 1
    have x2 : w4.cell? ⟨w1.heap.size, 2, none⟩ = some (.int .i64 i3) := X4.out.cell 2
    have x3 : w4.cell? ⟨w1.heap.size, 3, none⟩ = some (.int .i64 i4) := X4.out.cell 3
    have x4 : w4.cell? ⟨w1.heap.size, 4, none⟩ = some (.int .i64 i5) := X4.out.cell 4
    have x5 : w4.cell? ⟨w1.heap.size, 5, none⟩ = some (.int .i64 i6) := X4.out.cell 5
    have x6 : w4.cell? ⟨w1.heap.size, 6, none⟩ = some (.int .i64 i7) := X4.out.cell 6
    have x7 : w4.cell? ⟨w1.heap.size, 7, none⟩ = some (.slice p n c) := X4.out.cell 7
    go_wp2_with fail
    refine (CW.out _ B4.out).mono ?_
    rintro e w5 ⟨rfl, hb⟩
    have B5 := Lib.hid (B4.out.trans (hb.mono B4.out.size))
    have X5 := Lib.hid (X4.out.below hb X4.out.lt)
    have Y5 := Lib.hid (Y4.out.below hb Y4.out.lt)
    clear hb x0 x1 x2 x3 x4 x5 x6 x7 CW
    have x0 : w5.cell? ⟨w1.heap.size, 0, none⟩ = some (.int .i64 i1) := X5.out.cell 0
    have x1 : w5.cell? ⟨w1.heap.size, 1, none⟩ = some (.int .i64 i2) := X5.out.cell 1
    have x2 : w5.cell? ⟨w1.heap.size, 2, none⟩ = some (.int .i64 i3) := X5.out.cell 2
    have x3 : w5.cell? ⟨w1.heap.size, 3, none⟩ = some (.int .i64 i4) := X5.out.cell 3
    have x4 : w5.cell? ⟨w1.heap.size, 4, none⟩ = some (.int .i64 i5) := X5.out.cell 4
    have x5 : w5.cell? ⟨w1.heap.size, 5, none⟩ = some (.int .i64 i6) := X5.out.cell 5
    have x6 : w5.cell? ⟨w1.heap.size, 6, none⟩ = some (.int .i64 i7) := X5.out.cell 6
    have x7 : w5.cell? ⟨w1.heap.size, 7, none⟩ = some (.slice p n c) := X5.out.cell 7
    have y0 : w5.cell? ⟨w3.heap.size, 0, none⟩ = some (.int .i64 j1) := Y5.out.cell 0
    have y1 : w5.cell? ⟨w3.heap.size, 1, none⟩ = some (.int .i64 j2) := Y5.out.cell 1
    have y2 : w5.cell? ⟨w3.heap.size, 2, none⟩ = some (.int .i64 j3) := Y5.out.cell 2
    have y3 : w5.cell? ⟨w3.heap.size, 3, none⟩ = some (.int .i64 j4) := Y5.out.cell 3
    have y4 : w5.cell? ⟨w3.heap.size, 4, none⟩ = some (.int .i64 j5) := Y5.out.cell 4
    have y5 : w5.cell? ⟨w3.heap.size, 5, none⟩ = some (.int .i64 j6) := Y5.out.cell 5
    have y6 : w5.cell? ⟨w3.heap.size, 6, none⟩ = some (.int .i64 j7) := Y5.out.cell 6
    have y7 : w5.cell? ⟨w3.heap.size, 7, none⟩ = some (.slice q2 n2 c2) := Y5.out.cell 7
    go_wp2_with fail
    refine (CA.out _ B5.out).mono ?_
    rintro e w6 ⟨rfl, hb⟩
    have B6 := Lib.hid (B5.out.trans (hb.mono B5.out.size))
    go_wp2
    go_ret
    exact ⟨rfl, HE.out _ B6.out⟩
  rw [if_neg h3]
  have h3' : alikeB y.x z.x = true := by simpa using h3
  rw [h3'] at CA
  have KP := Lib.hid (fun w1 (hb : Below w.heap.size w w1) => pkeep_raw (y' := reunit y (y.x.units + z.x.units)) (w1 := w1) hp hG hy hb rfl ((H0.1.keep hb : St w1 y)) (fun _ hk => hk))
  have hzk : (L.set i (reunit y (y.x.units + z.x.units)))[k]? = some z := by rw [List.getElem?_set_ne h1]; exact hz
  have hapt : Apt ((L.set i (reunit y (y.x.units + z.x.units))).map raw) := by
    have ha := good_aptR hG
    have e : ((L.set i (reunit y (y.x.units + z.x.units))).map raw).map Lr.id = (L.map raw).map Lr.id := by
      rw [List.map_map, List.map_map]
      apply List.ext_getElem?
      intro j
      rw [List.getElem?_map, List.getElem?_map, List.getElem?_set]
      split
      · rename_i e
        subst e
        rw [hy, if_pos (List.getElem?_eq_some_iff.1 hy).1]
        rfl
      · rfl
    have h1 : ((L.map raw).map Lr.id).Pairwise (· ≠ ·) := List.pairwise_map.2 ha
    rw [← e] at h1
    exact List.pairwise_map.1 h1
  have DEL := Lib.hid (fun D (hM : Ms.Mp Lf Lr.id D ((L.set i (reunit y (y.x.units + z.x.units))).map raw)) (hT : Maps.Tidy D) => raws_erase _ _ ▸ mp_del (i := k) (y := raw z) hM hT hapt (by rw [List.getElem?_map, hzk]; rfl))
  have FIN := Lib.hid (fun w3 w4 w5 q D s' hq hb hP hT hown hM hBq h5 hs => merge_end (w := w) (w3 := w3) (w4 := w4) (w5 := w5) (y' := reunit y (y.x.units + z.x.units)) (k := k) (q := q) (D := D) (B := B) (h := h) (mo := mo) (given := given) (s' := s') hy (fun _ hk => hk) hq hb hP hT hown hM hBq h5 hs)
  have HKEY := Lib.hid (Ms.key_of (Ms.in64_of hm2.1 hm2.2))
  have hlt := Lib.hid hp.blk.lt
  have hmo : Hid (∀ k, mo = some k → k < w.heap.size) := Lib.hid (fun k e => (Ms.tab_lt hp.tab e).2)
  have iw : IntKind.i64.wrap (y.x.units + z.x.units) = y.x.units + z.x.units := IntWalk.i64_in _ (by have := H0.2.2.2.2; have := H1.2.2.2.2; omega)
  clear ha hb hy hyx hz hzx hp hG H0 H1 hik h1 h2 h3 h3' hzk hapt
  obtain ⟨⟨i1, i2, i3, i4, i5, i6, i7, S⟩, p, n, c⟩ := y
  obtain ⟨⟨j1, j2, j3, j4, j5, j6, j7, S2⟩, q2, n2, c2⟩ := z
  simp only [lval, reunit, raw] at *
  subst hidz
  go_enter Try.func21, Try.ntmps21
  go_wp2_with fail
  refine (C1.out _ (Below.refl _ _)).mono ?_
  rintro e w1 ⟨rfl, hb⟩
  have B2 := Lib.hid (hb.alloc hb.size (.cells #[.int .i64 i1, .int .i64 i2, .int .i64 i3, .int .i64 i4, .int .i64 i5, .int .i64 i6, .int .i64 i7, .slice p n c] 32))
  have X2 := Lib.hid (Lies.new w1 32 #[.int .i64 i1, .int .i64 i2, .int .i64 i3, .int .i64 i4, .int .i64 i5, .int .i64 i6, .int .i64 i7, .slice p n c])
  have HW := Lib.hid hb.size
  clear hb
  go_upto_region 4 with fail
  generalize w1.alloc (.cells #[.int .i64 i1, .int .i64 i2, .int .i64 i3, .int .i64 i4, .int .i64 i5, .int .i64 i6, .int .i64 i7, .slice p n c] 32) = w2 at *
  go_wp2_with fail
  refine (C2.out _ B2.out).mono ?_
  rintro e w3 ⟨rfl, hb⟩
  have B3 := Lib.hid (B2.out.trans (hb.mono B2.out.size))
  have X3 := Lib.hid (X2.out.below hb X2.out.lt)
  have B4 := Lib.hid (B3.out.alloc B3.out.size (.cells #[.int .i64 j1, .int .i64 j2, .int .i64 j3, .int .i64 j4, .int .i64 j5, .int .i64 j6, .int .i64 j7, .slice q2 n2 c2] 32))
  have X4 := Lib.hid (X3.out.alloc (.cells #[.int .i64 j1, .int .i64 j2, .int .i64 j3, .int .i64 j4, .int .i64 j5, .int .i64 j6, .int .i64 j7, .slice q2 n2 c2] 32))
  have Y4 := Lib.hid (Lies.new w3 32 #[.int .i64 j1, .int .i64 j2, .int .i64 j3, .int .i64 j4, .int .i64 j5, .int .i64 j6, .int .i64 j7, .slice q2 n2 c2])
  have HW3 := Lib.hid (Nat.lt_of_lt_of_le X2.out.lt hb.size)
  clear hb X2 X3
  go_upto_region 5 with fail
  generalize w3.alloc (.cells #[.int .i64 j1, .int .i64 j2, .int .i64 j3, .int .i64 j4, .int .i64 j5, .int .i64 j6, .int .i64 j7, .slice q2 n2 c2] 32) = w4 at *
  have x0 : w4.cell? ⟨w1.heap.size, 0, none⟩ = some (.int .i64 i1) := X4.out.cell 0
  have x1 : w4.cell? ⟨w1.heap.size, 1, none⟩ = some (.int .i64 i2) := X4.out.cell 1
  have x2 : w4.cell? ⟨w1.heap.size, 2, none⟩ = some (.int .i64 i3) := X4.out.cell 2
  have x3 : w4.cell? ⟨w1.heap.size, 3, none⟩ = some (.int .i64 i4) := X4.out.cell 3
  have x4 : w4.cell? ⟨w1.heap.size, 4, none⟩ = some (.int .i64 i5) := X4.out.cell 4
  have x5 : w4.cell? ⟨w1.heap.size, 5, none⟩ = some (.int .i64 i6) := X4.out.cell 5
  have x6 : w4.cell? ⟨w1.heap.size, 6, none⟩ = some (.int .i64 i7) := X4.out.cell 6
  have x7 : w4.cell? ⟨w1.heap.size, 7, none⟩ = some (.slice p n c) := X4.out.cell 7
  go_wp2_with fail
  refine (CW.out _ B4.out).mono ?_
  rintro e w5 ⟨rfl, hb⟩
  have B5 := Lib.hid (B4.out.trans (hb.mono B4.out.size))
  have X5 := Lib.hid (X4.out.below hb X4.out.lt)
  have Y5 := Lib.hid (Y4.out.below hb Y4.out.lt)
  clear hb x0 x1 x2 x3 x4 x5 x6 x7 CW
  have x0 : w5.cell? ⟨w1.heap.size, 0, none⟩ = some (.int .i64 i1) := X5.out.cell 0
  have x1 : w5.cell? ⟨w1.heap.size, 1, none⟩ = some (.int .i64 i2) := X5.out.cell 1
  have x2 : w5.cell? ⟨w1.heap.size, 2, none⟩ = some (.int .i64 i3) := X5.out.cell 2
  have x3 : w5.cell? ⟨w1.heap.size, 3, none⟩ = some (.int .i64 i4) := X5.out.cell 3
  have x4 : w5.cell? ⟨w1.heap.size, 4, none⟩ = some (.int .i64 i5) := X5.out.cell 4
  have x5 : w5.cell? ⟨w1.heap.size, 5, none⟩ = some (.int .i64 i6) := X5.out.cell 5
  have x6 : w5.cell? ⟨w1.heap.size, 6, none⟩ = some (.int .i64 i7) := X5.out.cell 6
  have x7 : w5.cell? ⟨w1.heap.size, 7, none⟩ = some (.slice p n c) := X5.out.cell 7
  have y0 : w5.cell? ⟨w3.heap.size, 0, none⟩ = some (.int .i64 j1) := Y5.out.cell 0
  have y1 : w5.cell? ⟨w3.heap.size, 1, none⟩ = some (.int .i64 j2) := Y5.out.cell 1
  have y2 : w5.cell? ⟨w3.heap.size, 2, none⟩ = some (.int .i64 j3) := Y5.out.cell 2
  have y3 : w5.cell? ⟨w3.heap.size, 3, none⟩ = some (.int .i64 j4) := Y5.out.cell 3
  have y4 : w5.cell? ⟨w3.heap.size, 4, none⟩ = some (.int .i64 j5) := Y5.out.cell 4
  have y5 : w5.cell? ⟨w3.heap.size, 5, none⟩ = some (.int .i64 j6) := Y5.out.cell 5
  have y6 : w5.cell? ⟨w3.heap.size, 6, none⟩ = some (.int .i64 j7) := Y5.out.cell 6
  have y7 : w5.cell? ⟨w3.heap.size, 7, none⟩ = some (.slice q2 n2 c2) := Y5.out.cell 7
  go_wp2_with fail
  refine (CA.out _ B5.out).mono ?_
  rintro e w6 ⟨rfl, hb⟩
  have B6 := Lib.hid (B5.out.trans (hb.mono B5.out.size))
  have X6 := Lib.hid (X5.out.below hb X5.out.lt)
  have Y6 := Lib.hid (Y5.out.below hb Y5.out.lt)
  clear hb x0 x1 x2 x3 x4 x5 x6 x7 y0 y1 y2 y3 y4 y5 y6 y7 CA X4 X5 Y4 Y5
  have x2 : w6.cell? ⟨w1.heap.size, 2, none⟩ = some (.int .i64 i3) := X6.out.cell 2
  have g2 := X6.out.frozen 2
  have y2 : w6.cell? ⟨w3.heap.size, 2, none⟩ = some (.int .i64 j3) := Y6.out.cell 2
  go_upto_region 14 with fail
  have X7 : Hid (Lies (w6.setCell ⟨w1.heap.size, 2, none⟩ (.int .i64 (i3 + j3))) w1.heap.size 32 #[.int .i64 i1, .int .i64 i2, .int .i64 (i3 + j3), .int .i64 i4, .int .i64 i5, .int .i64 i6, .int .i64 i7, .slice p n c]) := Lib.hid (by simpa using X6.out.set_ 2 (.int .i64 (i3 + j3)))
  have B7 := Lib.hid (B6.out.setCell (p := ⟨w1.heap.size, 2, none⟩) HW.out (.int .i64 (i3 + j3)))
  generalize w6.setCell ⟨w1.heap.size, 2, none⟩ (.int .i64 (i3 + j3)) = w7 at *
  clear x2 g2 y2
  have x0 : w7.cell? ⟨w1.heap.size, 0, none⟩ = some (.int .i64 i1) := X7.out.cell 0
  have x1 : w7.cell? ⟨w1.heap.size, 1, none⟩ = some (.int .i64 i2) := X7.out.cell 1
  have x2 : w7.cell? ⟨w1.heap.size, 2, none⟩ = some (.int .i64 (i3 + j3)) := X7.out.cell 2
  have x3 : w7.cell? ⟨w1.heap.size, 3, none⟩ = some (.int .i64 i4) := X7.out.cell 3
  have x4 : w7.cell? ⟨w1.heap.size, 4, none⟩ = some (.int .i64 i5) := X7.out.cell 4
  have x5 : w7.cell? ⟨w1.heap.size, 5, none⟩ = some (.int .i64 i6) := X7.out.cell 5
  have x6 : w7.cell? ⟨w1.heap.size, 6, none⟩ = some (.int .i64 i7) := X7.out.cell 6
  have x7 : w7.cell? ⟨w1.heap.size, 7, none⟩ = some (.slice p n c) := X7.out.cell 7
  go_wp2_with fail
  refine (KP.out w7 B7.out).mono ?_
  rintro e w8 ⟨rfl, q, hq, hP, hT⟩
  have FF := Lib.hid (fun w9 D s' hown hM hBq h5 hs => FIN.out w7 w8 w9 q D s' hq B7.out hP hT hown hM hBq h5 hs)
  have HP := Lib.hid hP
  have l0 : w8.cell? ⟨h, 0, none⟩ = some (.map (some q)) := hP.blk.cell 0
  rcases hP.tab with ⟨e, _⟩ | ⟨q', D, e, hBq, hown, hM⟩
  · cases e
  obtain rfl := Option.some.inj e
  have HO := Lib.hid hown
  have HDM := Lib.hid (DEL.out D hM (hown.tidy Ms.lawI))
  have HBQ := Lib.hid hBq
  clear hq hP hT hown hM hBq e FIN KP DEL x0 x1 x2 x3 x4 x5 x6 x7
  go_wp2_with (at_delete; refine wpList_delete_own _ rfl _ _ 58 3 rfl 32 Ms.lawI Try.underlying58 (Ms.rdF Lf) q _ D rfl HO.out _ _ rfl HKEY.out ?_; intro w9 hown9 hturn9)
  have HF := Lib.hid (FF.out w9 _ _ hown9 HDM.out HBQ.out hturn9 rfl)
  clear hown9 hturn9 l0
  go_wp2
  go_ret
  exact ⟨rfl, HF.out⟩
end Lo
end Go.Proofs.Ytkfmkchonlajpaa

namespace Go.Proofs.Ytkfmkchonlajpaa
open Go.RowKit Go.Maps

namespace Lo
theorem recv_parts {units expiry now : Int} : recvOk units expiry now = ((decide (1 ≤ units) && decide (units ≤ 1048576)) && ((decide (0 ≤ expiry) && decide (expiry < 1048576)) && (decide (0 ≤ now) && decide (now < 1048576)))) := by
  unfold recvOk
  rw [Bool.eq_iff_iff]
  simp only [Bool.and_eq_true, decide_eq_true_eq]
  omega
set_option maxRecDepth 100000 in
set_option maxHeartbeats 8000000 in
theorem precv_bad (B h Bm hm : Nat) (Fm : Nat → Prop) (M : Ms.Face) (mo : Option Nat) (given : Int) (L : List Lv) (Z : List Ms.Zn) (P : List Ms.Pd) (product zone units expiry now : Int) (w : World) (hp : PL w B h mo given L) (_hM : M.DB w Bm hm Fm Z P) (hb : recvOk units expiry now = false) :
    Calls Try.prog 18 #[.pointer (some ⟨h, 0, none⟩), .pointer (some ⟨hm, 0, none⟩), .int .i64 product, .int .i64 zone, .int .i64 units, .int .i64 expiry, .int .i64 now] w fun e w' => e = .returned (.tuple #[.int .i64 0, .int .i64 1]) ∧ LeftL w B h mo L (lts L, given) w' := by
  have HE := Lib.hid (leftL_same hp (Below.refl _ _))
  rw [recv_parts] at hb
  have CU := Lib.hid (fun W => pu_any units W)
  have CE := Lib.hid (fun W => pm_any expiry W)
  have CN := Lib.hid (fun W => pm_any now W)
  generalize (decide (1 ≤ units) && decide (units ≤ 1048576)) = t1 at *
  generalize (decide (0 ≤ expiry) && decide (expiry < 1048576)) = t2 at *
  generalize (decide (0 ≤ now) && decide (now < 1048576)) = t3 at *
  clear hp
  go_enter Try.func18, Try.ntmps18
  go_wp2_with fail
  refine (CU.out _).mono ?_
  rintro e w' ⟨rfl, rfl⟩
  cases t1
  · go_wp2
    go_ret2
    exact ⟨rfl, HE.out⟩
  go_wp2_with fail
  refine (CE.out _).mono ?_
  rintro e w' ⟨rfl, rfl⟩
  cases t2
  · go_wp2
    go_ret2
    exact ⟨rfl, HE.out⟩
  go_wp2_with fail
  refine (CN.out _).mono ?_
  rintro e w' ⟨rfl, rfl⟩
  cases t3
  · go_wp2
    go_ret2
    exact ⟨rfl, HE.out⟩
  cases hb
/-- What the numbers' answers are, where they may be. -/
theorem recv_yes {units expiry now : Int} (hok : recvOk units expiry now = true) : (decide (1 ≤ units) && decide (units ≤ 1048576)) = true ∧ (decide (0 ≤ expiry) && decide (expiry < 1048576)) = true ∧ (decide (0 ≤ now) && decide (now < 1048576)) = true := by
  rw [recv_parts] at hok
  obtain ⟨h1, h2⟩ := (Bool.and_eq_true _ _).mp hok
  obtain ⟨h3, h4⟩ := (Bool.and_eq_true _ _).mp h2
  exact ⟨h1, h3, h4⟩
set_option maxRecDepth 100000 in
set_option maxHeartbeats 8000000 in
theorem precv_none (B h Bm hm : Nat) (Fm : Nat → Prop) (M : Ms.Face) (mo : Option Nat) (given : Int) (L : List Lv) (Z : List Ms.Zn) (P : List Ms.Pd) (product zone units expiry now : Int) (w : World) (hp : PL w B h mo given L) (hM : M.DB w Bm hm Fm Z P) (hz1 : I64 zone) (hp1 : I64 product) (hok : recvOk units expiry now = true) (hn : Ms.findK Ms.Pd.id product P = none ∨ Ms.findK Ms.Zn.id zone Z = none) :
    Calls Try.prog 18 #[.pointer (some ⟨h, 0, none⟩), .pointer (some ⟨hm, 0, none⟩), .int .i64 product, .int .i64 zone, .int .i64 units, .int .i64 expiry, .int .i64 now] w fun e w' => e = .returned (.tuple #[.int .i64 0, .int .i64 5]) ∧ LeftL w B h mo L (lts L, given) w' := by
  have HE := Lib.hid (fun W (hW : Below w.heap.size w W) => leftL_same hp hW)
  obtain ⟨o1, o2, o3⟩ := recv_yes hok
  have CU := Lib.hid (fun W => pu_any units W)
  have CE := Lib.hid (fun W => pm_any expiry W)
  have CN := Lib.hid (fun W => pm_any now W)
  rw [o1] at CU
  simp only [o2] at CE
  simp only [o3] at CN
  have CF := Lib.hid (fun W (hW : Below w.heap.size w W) => pfind_any M Bm hm Fm Z P zone W (M.keep hM hW) hz1)
  have CP := Lib.hid (fun W (hW : Below w.heap.size w W) => M.product Bm hm Fm Z P product W (M.keep hM hW) hp1.1 hp1.2)
  generalize Ms.findK Ms.Pd.id product P = op at *
  generalize Ms.findK Ms.Zn.id zone Z = oz at *
  clear hp hM hok o1 o2 o3
  cases oz with
  | none =>
    simp only [Option.getD_none, Option.isSome_none, Ms.zval, Ms.zn0] at CF
    cases op with
    | none =>
      simp only [Ms.getK, Ms.pval, Ms.pd0] at CP
      go_enter Try.func18, Try.ntmps18
      go_wp2_with fail
      refine (CU.out _).mono ?_
      rintro e w' ⟨rfl, rfl⟩
      go_wp2_with fail
      refine (CE.out _).mono ?_
      rintro e w' ⟨rfl, rfl⟩
      go_wp2_with fail
      refine (CN.out _).mono ?_
      rintro e w' ⟨rfl, rfl⟩
      go_wp2_with fail
      refine (CF.out _ (Below.refl _ _)).mono ?_
      rintro e w1 ⟨rfl, hb⟩
      have B2 := Lib.hid (hb.alloc hb.size (.cells #[.int .i64 0, .int .i64 0, .int .i64 0, .int .i64 0, .bool false, .int .i64 0] 45))
      clear hb
      go_upto_region 4 with fail
      generalize w1.alloc (.cells #[.int .i64 0, .int .i64 0, .int .i64 0, .int .i64 0, .bool false, .int .i64 0] 45) = w2 at *
      go_wp2_with fail
      refine (CP.out _ B2.out).mono ?_
      rintro e w3 ⟨rfl, hb⟩
      have B3 := Lib.hid (B2.out.trans (hb.mono B2.out.size))
      have B4 := Lib.hid (B3.out.alloc B3.out.size (.cells #[.int .i64 0, .int .i64 0, .int .i64 0] 48))
      clear hb
      go_upto_region 5 with fail
      generalize w3.alloc (.cells #[.int .i64 0, .int .i64 0, .int .i64 0] 48) = w4 at *
      go_wp2
      go_ret2
      exact ⟨rfl, HE.out _ B4.out⟩
    | some pp =>
      obtain ⟨pa, pb, pc⟩ := pp
      simp only [Ms.getK, Ms.pval] at CP
      go_enter Try.func18, Try.ntmps18
      go_wp2_with fail
      refine (CU.out _).mono ?_
      rintro e w' ⟨rfl, rfl⟩
      go_wp2_with fail
      refine (CE.out _).mono ?_
      rintro e w' ⟨rfl, rfl⟩
      go_wp2_with fail
      refine (CN.out _).mono ?_
      rintro e w' ⟨rfl, rfl⟩
      go_wp2_with fail
      refine (CF.out _ (Below.refl _ _)).mono ?_
      rintro e w1 ⟨rfl, hb⟩
      have B2 := Lib.hid (hb.alloc hb.size (.cells #[.int .i64 0, .int .i64 0, .int .i64 0, .int .i64 0, .bool false, .int .i64 0] 45))
      clear hb
      go_upto_region 4 with fail
      generalize w1.alloc (.cells #[.int .i64 0, .int .i64 0, .int .i64 0, .int .i64 0, .bool false, .int .i64 0] 45) = w2 at *
      go_wp2_with fail
      refine (CP.out _ B2.out).mono ?_
      rintro e w3 ⟨rfl, hb⟩
      have B3 := Lib.hid (B2.out.trans (hb.mono B2.out.size))
      have B4 := Lib.hid (B3.out.alloc B3.out.size (.cells #[.int .i64 pa, .int .i64 pb, .int .i64 pc] 48))
      clear hb
      go_upto_region 5 with fail
      generalize w3.alloc (.cells #[.int .i64 pa, .int .i64 pb, .int .i64 pc] 48) = w4 at *
      go_wp2
      go_ret2
      exact ⟨rfl, HE.out _ B4.out⟩
  | some zz =>
    obtain ⟨za, zb, zc, zd, ze, zf⟩ := zz
    simp only [Option.getD_some, Option.isSome_some, Ms.zval] at CF
    cases op with
    | none =>
      simp only [Ms.getK, Ms.pval, Ms.pd0] at CP
      go_enter Try.func18, Try.ntmps18
      go_wp2_with fail
      refine (CU.out _).mono ?_
      rintro e w' ⟨rfl, rfl⟩
      go_wp2_with fail
      refine (CE.out _).mono ?_
      rintro e w' ⟨rfl, rfl⟩
      go_wp2_with fail
      refine (CN.out _).mono ?_
      rintro e w' ⟨rfl, rfl⟩
      go_wp2_with fail
      refine (CF.out _ (Below.refl _ _)).mono ?_
      rintro e w1 ⟨rfl, hb⟩
      have B2 := Lib.hid (hb.alloc hb.size (.cells #[.int .i64 za, .int .i64 zb, .int .i64 zc, .int .i64 zd, .bool ze, .int .i64 zf] 45))
      clear hb
      go_upto_region 4 with fail
      generalize w1.alloc (.cells #[.int .i64 za, .int .i64 zb, .int .i64 zc, .int .i64 zd, .bool ze, .int .i64 zf] 45) = w2 at *
      go_wp2_with fail
      refine (CP.out _ B2.out).mono ?_
      rintro e w3 ⟨rfl, hb⟩
      have B3 := Lib.hid (B2.out.trans (hb.mono B2.out.size))
      have B4 := Lib.hid (B3.out.alloc B3.out.size (.cells #[.int .i64 0, .int .i64 0, .int .i64 0] 48))
      clear hb
      go_upto_region 5 with fail
      generalize w3.alloc (.cells #[.int .i64 0, .int .i64 0, .int .i64 0] 48) = w4 at *
      go_wp2
      go_ret2
      exact ⟨rfl, HE.out _ B4.out⟩
    | some pp => rcases hn with hn | hn <;> cases hn
set_option maxRecDepth 100000 in
set_option maxHeartbeats 8000000 in
theorem precv_full (B h Bm hm : Nat) (Fm : Nat → Prop) (M : Ms.Face) (mo : Option Nat) (given : Int) (L : List Lv) (Z : List Ms.Zn) (P : List Ms.Pd) (product zone units expiry now : Int) (w : World) (hp : PL w B h mo given L) (hM : M.DB w Bm hm Fm Z P) (hG : Good (lts L, given)) (hz1 : I64 zone) (hp1 : I64 product) (hok : recvOk units expiry now = true) (pp : Ms.Pd) (zz : Ms.Zn) (hpp : Ms.findK Ms.Pd.id product P = some pp) (hzz : Ms.findK Ms.Zn.id zone Z = some zz) (hf : 256 ≤ given ∨ zz.room < loadL (lts L) zone + units) :
    Calls Try.prog 18 #[.pointer (some ⟨h, 0, none⟩), .pointer (some ⟨hm, 0, none⟩), .int .i64 product, .int .i64 zone, .int .i64 units, .int .i64 expiry, .int .i64 now] w fun e w' => e = .returned (.tuple #[.int .i64 0, .int .i64 4]) ∧ LeftL w B h mo L (lts L, given) w' := by
  have HE := Lib.hid (fun W (hW : Below w.heap.size w W) => leftL_same hp hW)
  obtain ⟨o1, o2, o3⟩ := recv_yes hok
  have hu := ok_parts hok
  have CU := Lib.hid (fun W => pu_any units W)
  have CE := Lib.hid (fun W => pm_any expiry W)
  have CN := Lib.hid (fun W => pm_any now W)
  rw [o1] at CU
  simp only [o2] at CE
  simp only [o3] at CN
  have hzid := (Ms.find_some hzz).2
  have CF := Lib.hid (fun W (hW : Below w.heap.size w W) => pfind_any M Bm hm Fm Z P zone W (M.keep hM hW) hz1)
  have CP := Lib.hid (fun W (hW : Below w.heap.size w W) => M.product Bm hm Fm Z P product W (M.keep hM hW) hp1.1 hp1.2)
  have FU := Lib.hid (fun W (hW : Below w.heap.size w W) => pfull_any h mo given W (hp.keep hW).blk)
  have CR := Lib.hid (fun W (hW : Below w.heap.size w W) => proom_any B h mo given L zz units W (hp.keep hW) hG (by omega))
  rw [hzz] at CF
  rw [hpp] at CP
  rw [hzid] at CR
  clear hp hM hok o1 o2 o3 hpp hzz hzid hu hG
  generalize loadL (lts L) zone = ld at *
  obtain ⟨za, zb, zc, zd, ze, zf⟩ := zz
  obtain ⟨pa, pb, pc⟩ := pp
  simp only [Option.getD_some, Option.isSome_some, Ms.zval] at CF CR
  simp only [Ms.getK, Ms.pval] at CP
  simp only at hf
  by_cases h4 : 256 ≤ given
  · simp only [decide_eq_true h4] at FU
    go_enter Try.func18, Try.ntmps18
    go_wp2_with fail
    refine (CU.out _).mono ?_
    rintro e w' ⟨rfl, rfl⟩
    go_wp2_with fail
    refine (CE.out _).mono ?_
    rintro e w' ⟨rfl, rfl⟩
    go_wp2_with fail
    refine (CN.out _).mono ?_
    rintro e w' ⟨rfl, rfl⟩
    go_wp2_with fail
    refine (CF.out _ (Below.refl _ _)).mono ?_
    rintro e w1 ⟨rfl, hb⟩
    have B2 := Lib.hid (hb.alloc hb.size (.cells #[.int .i64 za, .int .i64 zb, .int .i64 zc, .int .i64 zd, .bool ze, .int .i64 zf] 45))
    clear hb
    go_upto_region 4 with fail
    generalize w1.alloc (.cells #[.int .i64 za, .int .i64 zb, .int .i64 zc, .int .i64 zd, .bool ze, .int .i64 zf] 45) = w2 at *
    go_wp2_with fail
    refine (CP.out _ B2.out).mono ?_
    rintro e w3 ⟨rfl, hb⟩
    have B3 := Lib.hid (B2.out.trans (hb.mono B2.out.size))
    have B4 := Lib.hid (B3.out.alloc B3.out.size (.cells #[.int .i64 pa, .int .i64 pb, .int .i64 pc] 48))
    clear hb
    go_upto_region 5 with fail
    generalize w3.alloc (.cells #[.int .i64 pa, .int .i64 pb, .int .i64 pc] 48) = w4 at *
    go_wp2_with fail
    refine (FU.out _ B4.out).mono ?_
    rintro e w' ⟨rfl, rfl⟩
    go_wp2
    go_ret2
    exact ⟨rfl, HE.out _ B4.out⟩
  · simp only [decide_eq_false h4] at FU
    have h5 : decide (ld + units ≤ zd) = false := by simp; omega
    rw [h5] at CR
    go_enter Try.func18, Try.ntmps18
    go_wp2_with fail
    refine (CU.out _).mono ?_
    rintro e w' ⟨rfl, rfl⟩
    go_wp2_with fail
    refine (CE.out _).mono ?_
    rintro e w' ⟨rfl, rfl⟩
    go_wp2_with fail
    refine (CN.out _).mono ?_
    rintro e w' ⟨rfl, rfl⟩
    go_wp2_with fail
    refine (CF.out _ (Below.refl _ _)).mono ?_
    rintro e w1 ⟨rfl, hb⟩
    have B2 := Lib.hid (hb.alloc hb.size (.cells #[.int .i64 za, .int .i64 zb, .int .i64 zc, .int .i64 zd, .bool ze, .int .i64 zf] 45))
    have X2 := Lib.hid (Lies.new w1 45 #[.int .i64 za, .int .i64 zb, .int .i64 zc, .int .i64 zd, .bool ze, .int .i64 zf])
    clear hb
    go_upto_region 4 with fail
    generalize w1.alloc (.cells #[.int .i64 za, .int .i64 zb, .int .i64 zc, .int .i64 zd, .bool ze, .int .i64 zf] 45) = w2 at *
    go_wp2_with fail
    refine (CP.out _ B2.out).mono ?_
    rintro e w3 ⟨rfl, hb⟩
    have B3 := Lib.hid (B2.out.trans (hb.mono B2.out.size))
    have X3 := Lib.hid (X2.out.below hb X2.out.lt)
    have B4 := Lib.hid (B3.out.alloc B3.out.size (.cells #[.int .i64 pa, .int .i64 pb, .int .i64 pc] 48))
    have X4 := Lib.hid (X3.out.alloc (.cells #[.int .i64 pa, .int .i64 pb, .int .i64 pc] 48))
    clear hb X2 X3
    go_upto_region 5 with fail
    generalize w3.alloc (.cells #[.int .i64 pa, .int .i64 pb, .int .i64 pc] 48) = w4 at *
    go_wp2_with fail
    refine (FU.out _ B4.out).mono ?_
    rintro e w' ⟨rfl, rfl⟩
    have x0 : w'.cell? ⟨w1.heap.size, 0, none⟩ = some (.int .i64 za) := X4.out.cell 0
    have x1 : w'.cell? ⟨w1.heap.size, 1, none⟩ = some (.int .i64 zb) := X4.out.cell 1
    have x2 : w'.cell? ⟨w1.heap.size, 2, none⟩ = some (.int .i64 zc) := X4.out.cell 2
    have x3 : w'.cell? ⟨w1.heap.size, 3, none⟩ = some (.int .i64 zd) := X4.out.cell 3
    have x4 : w'.cell? ⟨w1.heap.size, 4, none⟩ = some (.bool ze) := X4.out.cell 4
    have x5 : w'.cell? ⟨w1.heap.size, 5, none⟩ = some (.int .i64 zf) := X4.out.cell 5
    go_wp2_with fail
    refine (CR.out _ B4.out).mono ?_
    rintro e w5 ⟨rfl, hb⟩
    have B5 := Lib.hid (B4.out.trans (hb.mono B4.out.size))
    clear hb
    go_wp2
    go_ret2
    exact ⟨rfl, HE.out _ B5.out⟩
/-- A lot came. -/
theorem recv_left {B h : Nat} {mo : Option Nat} {given product zone units expiry now : Int} {L : List Lv} {w w1 : World} {q : Option Addr} {m c : Nat} (hp : PL w B h mo given L) (hG : Good (lts L, given)) (hg : ¬ 256 ≤ given) (hb : Below w.heap.size w w1) (hc : m ≤ c) (hr : Rw 3 Sy.scells w1 q m [⟨zone, now, -1⟩]) (hk : ∀ k, (0 < m ∧ ∃ a, q = some a ∧ a.block = k) → w.heap.size ≤ k) :
    Calls Try.prog 43 #[.pointer (some ⟨h, 0, none⟩), .agg #[.int .i64 0, .int .i64 product, .int .i64 units, .int .i64 expiry, .int .i64 0, .int .i64 0, .int .i64 0, .slice q m c]] w1 fun e w2 =>
      e = .returned (.int .i64 (given + 1)) ∧ LeftL w B h mo L (lts L ++ [⟨given + 1, product, units, expiry, 0, 0, 0, [⟨zone, now, -1⟩]⟩], given + 1) w2 := by
  have hL := lots_len hG
  have hlt := hp.blk.lt
  have hbase := hp.base
  have hgv := hG.given
  have hsz := hb.size
  simp only at hgv
  refine (padd_any B h mo given L ⟨⟨0, product, units, expiry, 0, 0, 0, [⟨zone, now, -1⟩]⟩, q, m, c⟩ w1 (hp.keep hb) ⟨hr, hc⟩ (by omega) (fun z hz => ?_) (by omega) (fun k hk' => ?_) (by omega)).mono ?_
  · have := (hG.low z.x (List.mem_map.2 ⟨z, hz, rfl⟩)).2
    simp only at this
    omega
  · have := hk k hk'
    exact ⟨by omega, by omega, fun e => by have := (Ms.tab_lt hp.tab e).2; omega⟩
  · rintro e w2 ⟨rfl, q', hq, hP, hT⟩
    refine ⟨rfl, some q', _, ?_, hP, (Turn.of_below hb).trans hT (fun i hi => .inl hi), fun k e => ?_, fun k hk' => ?_⟩
    · rw [lts, List.map_append]
      rfl
    · rw [← Option.some.inj e]
      exact hq.imp id (fun h => by omega)
    · exact (bks_app hk').imp id (hk k)
set_option maxRecDepth 100000 in
set_option maxHeartbeats 8000000 in
theorem precv_ok (B h Bm hm : Nat) (Fm : Nat → Prop) (M : Ms.Face) (mo : Option Nat) (given : Int) (L : List Lv) (Z : List Ms.Zn) (P : List Ms.Pd) (product zone units expiry now : Int) (w : World) (hp : PL w B h mo given L) (hM : M.DB w Bm hm Fm Z P) (hG : Good (lts L, given)) (hZ : Ms.GoodZ Z) (hz1 : I64 zone) (hp1 : I64 product) (hok : recvOk units expiry now = true) (pp : Ms.Pd) (zz : Ms.Zn) (hpp : Ms.findK Ms.Pd.id product P = some pp) (hzz : Ms.findK Ms.Zn.id zone Z = some zz) (hf : ¬ (256 ≤ given ∨ zz.room < loadL (lts L) zone + units)) :
    Calls Try.prog 18 #[.pointer (some ⟨h, 0, none⟩), .pointer (some ⟨hm, 0, none⟩), .int .i64 product, .int .i64 zone, .int .i64 units, .int .i64 expiry, .int .i64 now] w fun e w' => e = .returned (.tuple #[.int .i64 (given + 1), .int .i64 0]) ∧ LeftL w B h mo L (lts L ++ [⟨given + 1, product, units, expiry, 0, 0, 0, [⟨zone, now, -1⟩]⟩], given + 1) w' := by
  obtain ⟨o1, o2, o3⟩ := recv_yes hok
  have hu := ok_parts hok
  have CU := Lib.hid (fun W => pu_any units W)
  have CE := Lib.hid (fun W => pm_any expiry W)
  have CN := Lib.hid (fun W => pm_any now W)
  rw [o1] at CU
  simp only [o2] at CE
  simp only [o3] at CN
  have hzid := (Ms.find_some hzz).2
  have hzr := Ms.rightZ_id (hZ.right zz (Ms.find_some hzz).1)
  rw [hzid] at hzr
  have CF := Lib.hid (fun W (hW : Below w.heap.size w W) => pfind_any M Bm hm Fm Z P zone W (M.keep hM hW) hz1)
  have CP := Lib.hid (fun W (hW : Below w.heap.size w W) => M.product Bm hm Fm Z P product W (M.keep hM hW) hp1.1 hp1.2)
  have FU := Lib.hid (fun W (hW : Below w.heap.size w W) => pfull_any h mo given W (hp.keep hW).blk)
  have CR := Lib.hid (fun W (hW : Below w.heap.size w W) => proom_any B h mo given L zz units W (hp.keep hW) hG (by omega))
  have hmay : Sy.May [] now := ⟨Sy.right_nil, by omega, fun s hs => by simp at hs⟩
  have CT := Lib.hid (fun W => Sy.sface.enter none 0 0 [] zone now W (rw_zero W none) (by decide) (by decide) hmay (by omega))
  have AD := Lib.hid (fun w1 q m c => recv_left (product := product) (zone := zone) (units := units) (expiry := expiry) (now := now) (w1 := w1) (q := q) (m := m) (c := c) hp hG (fun h => hf (.inl h)))
  rw [hzz] at CF
  rw [hpp] at CP
  rw [hzid] at CR
  clear hp hM hok o1 o2 o3 hpp hzz hzid hu hG hmay hzr hZ
  generalize loadL (lts L) zone = ld at *
  obtain ⟨za, zb, zc, zd, ze, zf⟩ := zz
  obtain ⟨pa, pb, pc⟩ := pp
  simp only [Option.getD_some, Option.isSome_some, Ms.zval] at CF CR
  simp only [Ms.getK, Ms.pval] at CP
  simp only at hf
  have h4 : ¬ 256 ≤ given := fun h => hf (.inl h)
  simp only [decide_eq_false h4] at FU
  have h5 : decide (ld + units ≤ zd) = true := by simp; omega
  rw [h5] at CR
  go_enter Try.func18, Try.ntmps18
  go_wp2_with fail
  refine (CU.out _).mono ?_
  rintro e w' ⟨rfl, rfl⟩
  go_wp2_with fail
  refine (CE.out _).mono ?_
  rintro e w' ⟨rfl, rfl⟩
  go_wp2_with fail
  refine (CN.out _).mono ?_
  rintro e w' ⟨rfl, rfl⟩
  go_wp2_with fail
  refine (CF.out _ (Below.refl _ _)).mono ?_
  rintro e w1 ⟨rfl, hb⟩
  have B2 := Lib.hid (hb.alloc hb.size (.cells #[.int .i64 za, .int .i64 zb, .int .i64 zc, .int .i64 zd, .bool ze, .int .i64 zf] 45))
  have X2 := Lib.hid (Lies.new w1 45 #[.int .i64 za, .int .i64 zb, .int .i64 zc, .int .i64 zd, .bool ze, .int .i64 zf])
  clear hb
  go_upto_region 4 with fail
  generalize w1.alloc (.cells #[.int .i64 za, .int .i64 zb, .int .i64 zc, .int .i64 zd, .bool ze, .int .i64 zf] 45) = w2 at *
  go_wp2_with fail
  refine (CP.out _ B2.out).mono ?_
  rintro e w3 ⟨rfl, hb⟩
  have B3 := Lib.hid (B2.out.trans (hb.mono B2.out.size))
  have X3 := Lib.hid (X2.out.below hb X2.out.lt)
  have B4 := Lib.hid (B3.out.alloc B3.out.size (.cells #[.int .i64 pa, .int .i64 pb, .int .i64 pc] 48))
  have X4 := Lib.hid (X3.out.alloc (.cells #[.int .i64 pa, .int .i64 pb, .int .i64 pc] 48))
  clear hb X2 X3
  go_upto_region 5 with fail
  generalize w3.alloc (.cells #[.int .i64 pa, .int .i64 pb, .int .i64 pc] 48) = w4 at *
  go_wp2_with fail
  refine (FU.out _ B4.out).mono ?_
  rintro e w' ⟨rfl, rfl⟩
  have x0 : w'.cell? ⟨w1.heap.size, 0, none⟩ = some (.int .i64 za) := X4.out.cell 0
  have x1 : w'.cell? ⟨w1.heap.size, 1, none⟩ = some (.int .i64 zb) := X4.out.cell 1
  have x2 : w'.cell? ⟨w1.heap.size, 2, none⟩ = some (.int .i64 zc) := X4.out.cell 2
  have x3 : w'.cell? ⟨w1.heap.size, 3, none⟩ = some (.int .i64 zd) := X4.out.cell 3
  have x4 : w'.cell? ⟨w1.heap.size, 4, none⟩ = some (.bool ze) := X4.out.cell 4
  have x5 : w'.cell? ⟨w1.heap.size, 5, none⟩ = some (.int .i64 zf) := X4.out.cell 5
  go_wp2_with fail
  refine (CR.out _ B4.out).mono ?_
  rintro e w5 ⟨rfl, hb⟩
  have B5 := Lib.hid (B4.out.trans (hb.mono B4.out.size))
  clear hb x0 x1 x2 x3 x4 x5
  go_wp2_with fail
  refine ((CT.out w5).mono (fun e w6 hh => ok_new hh)).mono ?_
  intro e w6 he
  obtain ⟨q, m, c, rfl, hcm, hr, hk, hb⟩ := he
  have h5s := B5.out.size
  have KK := Lib.hid (AD.out w6 q m c (B5.out.trans (hb.mono B5.out.size)) hcm hr (fun k hk' => Nat.le_trans h5s (hk k hk')))
  clear h5s hcm hr hk hb AD
  go_wp2_with fail
  refine KK.out.mono ?_
  rintro e w7 ⟨rfl, hl⟩
  go_wp2
  go_ret2
  exact ⟨rfl, hl⟩
theorem precv_any (B h Bm hm : Nat) (Fm : Nat → Prop) (M : Ms.Face) (mo : Option Nat) (given : Int) (L : List Lv) (Z : List Ms.Zn) (P : List Ms.Pd) (product zone units expiry now : Int) (w : World) (hp : PL w B h mo given L) (hM : M.DB w Bm hm Fm Z P) (hG : Good (lts L, given)) (hZ : Ms.GoodZ Z) (hz1 : I64 zone) (hp1 : I64 product) :
    Calls Try.prog 18 #[.pointer (some ⟨h, 0, none⟩), .pointer (some ⟨hm, 0, none⟩), .int .i64 product, .int .i64 zone, .int .i64 units, .int .i64 expiry, .int .i64 now] w fun e w' => e = .returned (.tuple #[.int .i64 (recvS Z P (lts L, given) product zone units expiry now).1.1, .int .i64 ((recvS Z P (lts L, given) product zone units expiry now).1.2 : Nat)]) ∧ LeftL w B h mo L (recvS Z P (lts L, given) product zone units expiry now).2 w' := by
  by_cases hok : recvOk units expiry now = true
  case neg =>
    have hb : recvOk units expiry now = false := by simpa using hok
    rw [recv_bad hb]
    exact precv_bad B h Bm hm Fm M mo given L Z P product zone units expiry now w hp hM hb
  cases hpp : Ms.findK Ms.Pd.id product P with
  | none =>
    rw [recv_none hok (.inl hpp)]
    exact precv_none B h Bm hm Fm M mo given L Z P product zone units expiry now w hp hM hz1 hp1 hok (.inl hpp)
  | some pd =>
    cases hzz : Ms.findK Ms.Zn.id zone Z with
    | none =>
      rw [recv_none hok (.inr hzz)]
      exact precv_none B h Bm hm Fm M mo given L Z P product zone units expiry now w hp hM hz1 hp1 hok (.inr hzz)
    | some zn =>
      rw [recv_some hok hpp hzz]
      by_cases hf : 256 ≤ given ∨ zn.room < loadL (lts L) zone + units
      · rw [if_pos hf]
        exact precv_full B h Bm hm Fm M mo given L Z P product zone units expiry now w hp hM hG hz1 hp1 hok pd zn hpp hzz hf
      · rw [if_neg hf]
        exact precv_ok B h Bm hm Fm M mo given L Z P product zone units expiry now w hp hM hG hZ hz1 hp1 hok pd zn hpp hzz hf
end Lo
end Go.Proofs.Ytkfmkchonlajpaa
