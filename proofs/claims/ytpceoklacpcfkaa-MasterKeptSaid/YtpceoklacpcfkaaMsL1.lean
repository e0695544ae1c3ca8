/- The live question of layer 10's laws: it returns true. Condition: the contracts of package master. -/
import Derived.Test.YtpceoklacpcfkaaMsFace
namespace Go.Proofs.Ytpceoklacpcfkaa
open Go.RowKit

namespace Ms
theorem step_Z (I : Face) {w W : World} {h : Nat} {F : Nat → Prop} {Z Z' : List Zn} {P : List Pd} {z : Zn} {n : Nat} (hb : Below w.heap.size w W) (hd : I.DB W w.heap.size h F Z P) (hG : GoodZ Z) (hL : Z.length ≤ 1000) (e : addZ Z z = (n, Z')) (i : Int) (hi : i = n) :
    Calls Try.prog 7 #[.pointer (some ⟨h, 0, none⟩), zval z] W fun e w' => e = .returned (.int .i64 i) ∧ ∃ F', I.DB w' w.heap.size h F' Z' P ∧ Below w.heap.size w w' := by
  refine (I.addZ _ h F Z P z W hd hG hL).mono fun e2 w' ⟨he, hF⟩ => ?_
  rw [e] at he hF
  subst hi
  exact ⟨he, I.next_below hd hb hb.size hF⟩
theorem step_P (I : Face) {w W : World} {h : Nat} {F : Nat → Prop} {Z : List Zn} {P P' : List Pd} {p : Pd} {n : Nat} (hb : Below w.heap.size w W) (hd : I.DB W w.heap.size h F Z P) (hG : GoodP P) (hL : P.length ≤ 1000) (e : addP P p = (n, P')) (i : Int) (hi : i = n) :
    Calls Try.prog 9 #[.pointer (some ⟨h, 0, none⟩), pval p] W fun e w' => e = .returned (.int .i64 i) ∧ ∃ F', I.DB w' w.heap.size h F' Z P' ∧ Below w.heap.size w w' := by
  refine (I.addP _ h F Z P p W hd hG hL).mono fun e2 w' ⟨he, hF⟩ => ?_
  rw [e] at he hF
  subst hi
  exact ⟨he, I.next_below hd hb hb.size hF⟩
def z1 : Zn := ⟨3, 80, 5, 9, true, 0⟩
def p1 : Pd := ⟨2, 50, 7⟩
theorem good_z1 : GoodZ [z1] := ⟨List.pairwise_singleton _ _, fun x hx => by
  rw [List.mem_singleton.1 hx]
  decide⟩
theorem good_p1 : GoodP [p1] := ⟨List.pairwise_singleton _ _, fun x hx => by
  rw [List.mem_singleton.1 hx]
  decide⟩
theorem zs_end {Z : List Zn} {w w' : World} {e : Ending} {n : Nat} (hn : Z.length = n) (h : ZsEnd Z w e w') : ∃ q c, e = .returned (.slice q n c) ∧ n ≤ c ∧ w'.ownsRow w.heap.size 33 6 (.slice q n c) n (Z.flatMap zcells) ∧ Rw 6 zcells w' q n Z ∧ Below w.heap.size w w' := by
  subst hn
  obtain ⟨v, rfl, ho, hb⟩ := h
  obtain ⟨q, c, rfl, hc, hr⟩ := rw_own zcells_len ho
  exact ⟨q, c, rfl, hc, ho, hr, hb⟩
theorem ps_end {P : List Pd} {w w' : World} {e : Ending} {n : Nat} (hn : P.length = n) (h : PsEnd P w e w') : ∃ q c, e = .returned (.slice q n c) ∧ n ≤ c ∧ w'.ownsRow w.heap.size 36 3 (.slice q n c) n (P.flatMap pcells) ∧ Rw 3 pcells w' q n P ∧ Below w.heap.size w w' := by
  subst hn
  obtain ⟨v, rfl, ho, hb⟩ := h
  obtain ⟨q, c, rfl, hc, hr⟩ := rw_own pcells_len ho
  exact ⟨q, c, rfl, hc, ho, hr, hb⟩
set_option maxRecDepth 100000 in
set_option maxHeartbeats 8000000 in
/-- The live question. -/
theorem alive_any (I : Face) (w : World) : Calls Try.prog 5 #[] w fun e w' => e = .returned (.bool true) ∧ Below w.heap.size w w' := by
  go_enter Try.func5, Try.ntmps5
  go_wp2_with fail
  refine (I.new _).mono ?_
  rintro e w1 ⟨h, F0, rfl, hd, hb⟩
  have D := Lib.hid hd
  have B := Lib.hid hb
  clear hd hb
  go_wp2_with fail
  refine (show Calls _ _ #[_, zval z1] _ _ from step_Z I B.out D.out goodZ_nil (by decide) (show addZ [] z1 = (0, [z1]) by decide) 0 rfl).mono ?_
  rintro e w2 ⟨rfl, F1, hd, hb⟩
  clear D B
  have D := Lib.hid hd
  have B := Lib.hid hb
  clear hd hb
  go_wp2_with fail
  refine (show Calls _ _ #[_, zval ⟨3, 0, 0, 0, false, 0⟩] _ _ from step_Z I B.out D.out good_z1 (by decide) (show addZ [z1] ⟨3, 0, 0, 0, false, 0⟩ = (6, [z1]) by decide) 6 rfl).mono ?_
  rintro e w3 ⟨rfl, F2, hd, hb⟩
  clear D B
  have D := Lib.hid hd
  have B := Lib.hid hb
  clear hd hb
  go_wp2_with fail
  refine (show Calls _ _ #[_, zval ⟨1, 0, 0, 1048577, false, 0⟩] _ _ from step_Z I B.out D.out good_z1 (by decide) (show addZ [z1] ⟨1, 0, 0, 1048577, false, 0⟩ = (1, [z1]) by decide) 1 rfl).mono ?_
  rintro e w4 ⟨rfl, F3, hd, hb⟩
  clear D B
  have D := Lib.hid hd
  have B := Lib.hid hb
  clear hd hb
  go_wp2_with fail
  refine (show Calls _ _ #[_, pval p1] _ _ from step_P I B.out D.out goodP_nil (by decide) (show addP [] p1 = (0, [p1]) by decide) 0 rfl).mono ?_
  rintro e w5 ⟨rfl, F4, hd, hb⟩
  clear D B
  have D := Lib.hid hd
  have B := Lib.hid hb
  clear hd hb
  go_wp2_with fail
  refine (show Calls _ _ #[_, pval ⟨17, 0, 0⟩] _ _ from step_P I B.out D.out good_p1 (by decide) (show addP [p1] ⟨17, 0, 0⟩ = (1, [p1]) by decide) 1 rfl).mono ?_
  rintro e w6 ⟨rfl, F5, hd, hb⟩
  clear D B
  have D := Lib.hid hd
  have B := Lib.hid hb
  clear hd hb
  go_wp2_with fail
  refine ((I.zone _ _ _ [z1] [p1] 3 _ D.out (by decide) (by decide)).mono (fun e w7 (hh : e = .returned (.tuple #[zval (getK (findK Zn.id 3 [z1]) zn0).1, .int .i64 ((getK (findK Zn.id 3 [z1]) zn0).2 : Nat)]) ∧ _) => (show e = .returned (.tuple #[.agg #[.int .i64 3, .int .i64 80, .int .i64 5, .int .i64 9, .bool true, .int .i64 0], .int .i64 0]) ∧ _ from ⟨hh.1, hh.2⟩))).mono ?_
  rintro e w7 ⟨rfl, hb⟩
  have D7 := Lib.hid (I.keep D.out hb)
  have B7 := Lib.hid (B.out.trans (hb.mono B.out.size))
  clear D B hb
  have DA := Lib.hid (I.keep D7.out (alloc_below w7 (.cells #[.int .i64 3, .int .i64 80, .int .i64 5, .int .i64 9, .bool true, .int .i64 0] 33)))
  have BA := Lib.hid (B7.out.alloc B7.out.size (.cells #[.int .i64 3, .int .i64 80, .int .i64 5, .int .i64 9, .bool true, .int .i64 0] 33))
  have XA := Lib.hid (Lies.new w7 33 #[.int .i64 3, .int .i64 80, .int .i64 5, .int .i64 9, .bool true, .int .i64 0])
  clear D7 B7
  go_wp2_with fail
  refine ((I.product _ _ _ [z1] [p1] 3 _ DA.out (by decide) (by decide)).mono (fun e w7 (hh : e = .returned (.tuple #[pval (getK (findK Pd.id 3 [p1]) pd0).1, .int .i64 ((getK (findK Pd.id 3 [p1]) pd0).2 : Nat)]) ∧ _) => (show e = .returned (.tuple #[.agg #[.int .i64 0, .int .i64 0, .int .i64 0], .int .i64 5]) ∧ _ from ⟨hh.1, hh.2⟩))).mono ?_
  rintro e w8 ⟨rfl, hb⟩
  have D8 := Lib.hid (I.keep DA.out hb)
  have B8 := Lib.hid (BA.out.trans (hb.mono BA.out.size))
  have X8 := Lib.hid (XA.out.below hb XA.out.lt)
  clear DA BA XA hb
  have DB := Lib.hid (I.keep D8.out (alloc_below w8 (.cells #[.int .i64 0, .int .i64 0, .int .i64 0] 36)))
  have BB := Lib.hid (B8.out.alloc B8.out.size (.cells #[.int .i64 0, .int .i64 0, .int .i64 0] 36))
  have XB := Lib.hid (X8.out.alloc (.cells #[.int .i64 0, .int .i64 0, .int .i64 0] 36))
  obtain ⟨w9, hw9⟩ : ∃ w9, w8.alloc (.cells #[.int .i64 0, .int .i64 0, .int .i64 0] 36) = w9 := ⟨_, rfl⟩
  have FC : ∀ ob i, (w8.alloc ob).cell? ⟨w7.heap.size, i, none⟩ = w8.cell? ⟨w7.heap.size, i, none⟩ := fun ob i => (alloc_below w8 ob).cell (p := ⟨w7.heap.size, i, none⟩) X8.out.lt
  have x0 : w8.cell? ⟨w7.heap.size, 0, none⟩ = some (.int .i64 3) := X8.out.cell 0
  have x1 : w8.cell? ⟨w7.heap.size, 1, none⟩ = some (.int .i64 80) := X8.out.cell 1
  have x2 : w8.cell? ⟨w7.heap.size, 2, none⟩ = some (.int .i64 5) := X8.out.cell 2
  have x3 : w8.cell? ⟨w7.heap.size, 3, none⟩ = some (.int .i64 9) := X8.out.cell 3
  have x4 : w8.cell? ⟨w7.heap.size, 4, none⟩ = some (.bool true) := X8.out.cell 4
  have x5 : w8.cell? ⟨w7.heap.size, 5, none⟩ = some (.int .i64 0) := X8.out.cell 5
  rw [hw9] at DB BB XB
  have HW := Lib.hid hw9
  clear hw9 D8 B8
  go_wp2_with fail
  rw [HW.out]
  refine ((I.zones _ _ _ [z1] [p1] _ DB.out good_z1 (by decide)).mono (fun e w' hh => zs_end (n := 1) rfl hh)).mono ?_
  rintro e w10 ⟨q, c, rfl, _, _, _, hb⟩
  have DC := Lib.hid (I.keep DB.out hb)
  have BC := Lib.hid (BB.out.trans (hb.mono BB.out.size))
  clear hb DB BB XB HW FC x0 x1 x2 x3 x4 x5 X8
  go_wp2_with fail
  refine ((I.products _ _ _ [z1] [p1] _ DC.out good_p1 (by decide)).mono (fun e w' hh => ps_end (n := 1) rfl hh)).mono ?_
  rintro e w11 ⟨q2, c2, rfl, _, _, _, hb⟩
  have BD := Lib.hid (BC.out.trans (hb.mono BC.out.size))
  clear hb DC BC
  go_wp2
  go_ret
  exact ⟨rfl, BD.out⟩
end Ms
end Go.Proofs.Ytpceoklacpcfkaa
