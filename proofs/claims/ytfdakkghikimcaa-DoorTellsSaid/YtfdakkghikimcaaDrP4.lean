/- Walks over package door: Open. No condition but those written. -/
import Derived.Test.YtfdakkghikimcaaDrP3
import Derived.WalkSpells
import Derived.Laws.IdiomRangeMap
namespace Go.Proofs.Ytfdakkghikimcaa
open Go.RowKit Go.Maps

namespace Dr
open Se
theorem set_grown (w : World) (g i : Nat) (u : Value) : w.grownBy (w.setCell ⟨g, i, none⟩ u) (some g) :=
  ⟨rfl, rfl, rfl, by simp [World.setCell], fun k _ hk => Below.heap_setCell w ⟨g, i, none⟩ u k (fun e => hk (by rw [e]))⟩
theorem popen_nil (m : Int) (w : World) : Calls Try.prog 17 #[.pointer none, .int .i64 m] w fun e w' => e = .returned (.bool false) ∧ Below w.heap.size w w' := by
  go_enter Try.func17, Try.ntmps17
  go_wp2
  go_step3
  go_wp2
  try rw [Exit.noGoto_ret]
  go_ret
  exact ⟨rfl, Below.refl _ _⟩
set_option maxRecDepth 100000 in
set_option maxHeartbeats 4000000 in
theorem popen_map (h b : Nat) (D : DataW Unit) (S : List Rd) (m : Int) (w : World) (hl : Lies w h 54 #[.map (some b)]) (hown : w.ownsMap Try.prog 56 (plainElem Try.prog 4) b S.length D) (hM : Mp D S) (hS : Good S) :
    Calls Try.prog 17 #[.pointer (some ⟨h, 0, none⟩), .int .i64 m] w fun e w' => e = .returned (.bool (opn S m)) ∧ Below w.heap.size w w' := by
  have HM := Lib.hid hM
  have HS := Lib.hid hS
  clear hM hS
  have B0 := Lib.hid (alloc_below w (.cells #[.int .i64 0, .int .i64 0] 56))
  have L0 := Lib.hid (hl.alloc (.cells #[.int .i64 0, .int .i64 0] 56))
  have X0 := Lib.hid (Lies.new w 56 #[.int .i64 0, .int .i64 0])
  have O0 := Lib.hid (hown.alloc (.cells #[.int .i64 0, .int .i64 0] 56))
  have HB := Lib.hid hown.lt
  have HH := Lib.hid hl.lt
  clear hown hl
  have hs1 : (w.alloc (.cells #[.int .i64 0, .int .i64 0] 56)).heap.size = w.heap.size + 1 := by simp
  have HS1 := Lib.hid hs1
  clear hs1
  go_enter Try.func17, Try.ntmps17
  go_wp2
  go_step3
  go_wp2
  generalize w.alloc (.cells #[.int .i64 0, .int .i64 0] 56) = w1 at *
  have l0 : w1.cell? ⟨h, 0, none⟩ = some (.map (some b)) := L0.out.cell 0
  go_step3
  go_wp2_with (at_range; refine wpList_range_own _ rfl _ 52 rfl 56 4 law Try.underlying52 _ b S.length D rfl O0.out ?_; intro w2 hrg2 hg2 hs2)
  go_frame
  clear l0
  have RG2 := Lib.hid hrg2
  have B2 := Lib.hid (B0.out.grown hg2 (by have := HS1.out; omega) (fun k hk => by cases hk))
  have X2 := Lib.hid (X0.out.grown hg2 (by simp))
  clear hrg2 hg2 hs2 O0 X0 B0 L0
  generalize w1.heap.size = r at *
  have HR : Hid (r ≠ w.heap.size) := Lib.hid (by have := HS1.out; omega)
  have BE2 := Lib.hid (best_start HM.out m)
  go_loopw [6] (fun o wr => ∃ (left : Lit → Bool) (cnt : Nat) (lm ls : Int) (ob : Bool), o = .bool ob ∧ Hid (wr.ranges Try.prog 56 (plainElem Try.prog 4) b r S.length D left cnt) ∧ Hid (Lies wr w.heap.size 56 #[.int .i64 lm, .int .i64 ls]) ∧ Hid (Best S left m lm ls ob) ∧ Hid (Below w.heap.size w wr)) (fun _ wr => wr.rangeLeft b r)
  case atStart => exact ⟨_, _, 0, 0, false, rfl, RG2, X2, BE2, B2⟩
  case round =>
    obtain ⟨left, cnt, lm, ls, ob, rfl, RG, XL, BE, BW⟩ := hrel
    clear RG2 X2 BE2 B2
    go_wp2_with (at_next; refine next_place _ rfl _ rfl b r S.length D left cnt rfl RG.out (fun hl0 => unstay ?_) (fun km ks c w3 cnt3 hst hen => unstay ?_))
    · refine stay ?_
      have E := Lib.hid (best_end HS.out BE.out hl0.out)
      clear hl0
      go_wp2
      try rw [Exit.noGoto_ret]
      go_ret
      exact ⟨by rw [E.out]; rfl, BW.out⟩
    · obtain ⟨x, hx, hx1, hx2, hx3⟩ := here_step HM.out hst.k64 hst.at_
      have hx0 : 0 ≤ km ∧ 0 ≤ ks := by
        have := HS.out.right x hx
        simp only [rightM, Bool.and_eq_true, decide_eq_true_eq] at this
        omega
      have B3 := Lib.hid (BW.out.grown hst.grown BW.out.size (fun k hk => by have := Option.some.inj hk; have := HS1.out; omega))
      have X3 := Lib.hid (XL.out.grown hst.grown (fun e => HR.out (Option.some.inj e).symm))
      have RG3 := Lib.hid hst.goes
      have HL := Lib.hid hst.less
      have HK := Lib.hid hst.k64
      have HX := Lib.hid (And.intro hx (And.intro hx1 (And.intro hx2 hx3)))
      have HX0 := Lib.hid hx0
      have RG4 := Lib.hid (RG3.out.alloc (.cells #[.int .i64 km, .int .i64 ks] 56))
      have B4 := Lib.hid (B3.out.alloc B3.out.size (.cells #[.int .i64 km, .int .i64 ks] 56))
      have X4 := Lib.hid (X3.out.alloc (.cells #[.int .i64 km, .int .i64 ks] 56))
      have Y4 := Lib.hid (Lies.new w3 56 #[.int .i64 km, .int .i64 ks])
      have x0 : (w3.alloc (.cells #[.int .i64 km, .int .i64 ks] 56)).cell? ⟨w.heap.size, 0, none⟩ = some (.int .i64 lm) := X4.out.cell 0
      have x1 : (w3.alloc (.cells #[.int .i64 km, .int .i64 ks] 56)).cell? ⟨w.heap.size, 1, none⟩ = some (.int .i64 ls) := X4.out.cell 1
      have C := Lib.hid (fun W => pcmp_any km ks lm ls W)
      clear hst hx hx1 hx2 hx3 hx0 RG3 X3
      by_cases hgt : m < km
      · have BE4 := Lib.hid (best_skip HS.out BE.out HK.out HX0.out (.inl hgt))
        refine stay ?_
        go_wp2
        go_roundw
        case rel => exact ⟨_, cnt3, lm, ls, ob, rfl, RG4, X4, BE4, B4⟩
        case measure =>
          rw [RG4.out.left_eq, RG.out.left_eq]
          exact HL.out
      · have hle : km ≤ m := by omega
        clear hgt
        by_cases hc : cmpP km ks lm ls < 0
        · have hc' := cmpP_neg km ks lm ls
          rw [decide_eq_true hc] at hc'
          have BE4 := Lib.hid (best_skip HS.out BE.out HK.out HX0.out (.inr (of_decide_eq_true hc'.symm)))
          clear hc'
          generalize cmpP km ks lm ls = cv at *
          refine stay ?_
          go_wp2_with fail
          refine (C.out _).mono ?_
          rintro e w5 ⟨rfl, q, os, hq⟩
          have B5 := Lib.hid (grow_below (Nat.le_refl _) hq)
          have RG5 := Lib.hid (RG4.out.kept (below_grown B5.out) (by simp) (by simp))
          have X5 := Lib.hid (X4.out.below B5.out X4.out.lt)
          have BW5 := Lib.hid (B4.out.trans (B5.out.mono B4.out.size))
          clear hq x0 x1
          go_wp2
          go_roundw
          case rel => exact ⟨_, cnt3, lm, ls, ob, rfl, RG5, X5, BE4, BW5⟩
          case measure =>
            rw [RG5.out.left_eq, RG.out.left_eq]
            exact HL.out
        · have hc' := cmpP_neg km ks lm ls
          rw [decide_eq_false hc] at hc'
          have hc0 : 0 ≤ cmpP km ks lm ls := by omega
          obtain ⟨hx, hx1, hx2, hx3⟩ := HX.out
          have BE4 := Lib.hid (best_take HS.out BE.out HK.out hx hx1 hx2 hx3 hle (of_decide_eq_false hc'.symm))
          clear hc' hc hx hx1 hx2 hx3
          generalize cmpP km ks lm ls = cv at *
          refine stay ?_
          go_wp2_with fail
          refine (C.out _).mono ?_
          rintro e w5 ⟨rfl, q, os, hq⟩
          have B5 := Lib.hid (grow_below (Nat.le_refl _) hq)
          have RG5 := Lib.hid (RG4.out.kept (below_grown B5.out) (by simp) (by simp))
          have X5 := Lib.hid (X4.out.below B5.out X4.out.lt)
          have Y5 := Lib.hid (Y4.out.below B5.out Y4.out.lt)
          have BW5 := Lib.hid (B4.out.trans (B5.out.mono B4.out.size))
          clear hq x0 x1
          have x0 : w5.cell? ⟨w.heap.size, 0, none⟩ = some (.int .i64 lm) := X5.out.cell 0
          have x1 : w5.cell? ⟨w.heap.size, 1, none⟩ = some (.int .i64 ls) := X5.out.cell 1
          have f0 : w5.frozen? ⟨w.heap.size, 0, none⟩ = false := X5.out.frozen 0
          have f1 : w5.frozen? ⟨w.heap.size, 1, none⟩ = false := X5.out.frozen 1
          have y0 : w5.cell? ⟨w3.heap.size, 0, none⟩ = some (.int .i64 km) := Y5.out.cell 0
          have y1 : w5.cell? ⟨w3.heap.size, 1, none⟩ = some (.int .i64 ks) := Y5.out.cell 1
          have X6 : Hid (Lies ((w5.setCell ⟨w.heap.size, 0, none⟩ (.int .i64 km)).setCell ⟨w.heap.size, 1, none⟩ (.int .i64 ks)) w.heap.size 56 #[.int .i64 km, .int .i64 ks]) := Lib.hid ((X5.out.set_ 0 (.int .i64 km)).set_ 1 (.int .i64 ks))
          have BW6 := Lib.hid ((BW5.out.setCell (p := ⟨w.heap.size, 0, none⟩) (Nat.le_refl _) (.int .i64 km)).setCell (p := ⟨w.heap.size, 1, none⟩) (Nat.le_refl _) (.int .i64 ks))
          have RG6 := Lib.hid (show ((w5.setCell ⟨w.heap.size, 0, none⟩ (.int .i64 km)).setCell ⟨w.heap.size, 1, none⟩ (.int .i64 ks)).ranges Try.prog 56 (plainElem Try.prog 4) b r S.length D (fun z => left z && !z.sameKey (pk km ks)) cnt3 from
            (RG5.out.kept (set_grown w5 w.heap.size 0 (.int .i64 km)) (fun e => by have := Option.some.inj e; have := HB.out; omega) (fun e => HR.out (Option.some.inj e))).kept (set_grown _ w.heap.size 1 (.int .i64 ks)) (fun e => by have := Option.some.inj e; have := HB.out; omega) (fun e => HR.out (Option.some.inj e)))
          go_wp2
          go_roundw
          case rel => exact ⟨_, cnt3, km, ks, c, rfl, RG6, X6, BE4, BW6⟩
          case measure =>
            rw [RG6.out.left_eq, RG.out.left_eq]
            exact HL.out
set_option maxRecDepth 100000 in
set_option maxHeartbeats 4000000 in
theorem popen_none (h : Nat) (m : Int) (w : World) (hl : Lies w h 54 #[.map none]) :
    Calls Try.prog 17 #[.pointer (some ⟨h, 0, none⟩), .int .i64 m] w fun e w' => e = .returned (.bool false) ∧ Below w.heap.size w w' := by
  have B0 := Lib.hid (alloc_below w (.cells #[.int .i64 0, .int .i64 0] 56))
  have L0 := Lib.hid (hl.alloc (.cells #[.int .i64 0, .int .i64 0] 56))
  clear hl
  have hs1 : (w.alloc (.cells #[.int .i64 0, .int .i64 0] 56)).heap.size = w.heap.size + 1 := by simp
  have HS1 := Lib.hid hs1
  clear hs1
  go_enter Try.func17, Try.ntmps17
  go_wp2
  go_step3
  go_wp2
  generalize w.alloc (.cells #[.int .i64 0, .int .i64 0] 56) = w1 at *
  have l0 : w1.cell? ⟨h, 0, none⟩ = some (.map none) := L0.out.cell 0
  have e1 := run_range_nilMap (P := Try.prog) w1 52 56 4 Try.underlying52
  have e2 := fun ty => run_next_nilMap (P := Try.prog) w1 ty 0 0 #[]
  have B2 := Lib.hid (B0.out.alloc (by have := HS1.out; omega) (.mapIter none 0 #[] 0))
  go_step3
  go_wp2
  refine wp_loop_rounds 1 ?_
  rw [rounds_succ]
  go_wp2
  try rw [Exit.noGoto_ret]
  go_ret
  exact ⟨rfl, B2.out⟩
/-- Open, whole. -/
theorem popen_any (B h : Nat) (F : Nat → Prop) (S : List Rd) (m : Int) (w : World) (hp : PDoor w B h F S) (hS : Good S) :
    Calls Try.prog 17 #[.pointer (some ⟨h, 0, none⟩), .int .i64 m] w fun e w' => e = .returned (.bool (opn S m)) ∧ Below w.heap.size w w' := by
  obtain ⟨mo, hl, hB, hF, hm⟩ := hp
  rcases hm with ⟨rfl, rfl⟩ | ⟨b, D, rfl, hne, hBb, hown, hM⟩
  · exact popen_none h m w hl
  · exact popen_map h b D S m w hl hown hM hS
end Dr
end Go.Proofs.Ytfdakkghikimcaa
