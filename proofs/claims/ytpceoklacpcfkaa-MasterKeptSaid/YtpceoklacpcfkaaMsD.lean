/- The document's answer of layer 10: one more, whole. No condition but those written. -/
import Derived.Test.YtpceoklacpcfkaaMsBZ
import Derived.Test.YtpceoklacpcfkaaMsBP
namespace Go.Proofs.Ytpceoklacpcfkaa
open Go.RowKit

namespace Ms
set_option maxRecDepth 100000 in
set_option maxHeartbeats 4000000 in
theorem raddZ_any (B g : Nat) (vz vp : Value) (Z : List Zn) (P : List Pd) (x : Zn) (w : World) (h : RM w B g vz vp Z P) (hL : Z.length ≤ 1000000) :
    Calls Try.prog 8 #[.pointer (some ⟨g, 0, none⟩), zval x] w (RAddZ w B g vz vp P (addZ Z x)) := by
  unfold addZ
  by_cases hr : rightZ x = true
  · rw [if_pos hr]
    exact raddZ_yes B g vz vp Z P x w h hr hL
  · rw [if_neg hr]
    have R := Lib.hid (fun W => rrightZ_any x W)
    rw [show rightZ x = false by simpa using hr] at R
    have B0 := Lib.hid (alloc_below w (.cells #[.int .i64 x.id, .int .i64 x.worst, .int .i64 x.gap, .int .i64 x.room, .bool x.dock, .int .i64 x.ajar] 33))
    have FS := Lib.hid (fun (W : World) (hW : Below w.heap.size w W) => raddZ_same (n := 1) h hW)
    clear hr h
    obtain ⟨a, b, c, d, e, f⟩ := x
    unfold zval at *
    simp only at R B0 ⊢
    go_enter Try.func8, Try.ntmps8
    go_wp2_with fail
    refine (R.out _).mono ?_
    rintro e w1 ⟨rfl, hb⟩
    have B1 := Lib.hid (B0.out.trans (hb.mono B0.out.size))
    clear hb
    go_wp2
    go_ret
    exact ⟨rfl, (FS.out _ B1.out).2⟩
set_option maxRecDepth 100000 in
set_option maxHeartbeats 4000000 in
theorem raddP_any (B g : Nat) (vz vp : Value) (Z : List Zn) (P : List Pd) (x : Pd) (w : World) (h : RM w B g vz vp Z P) (hL : P.length ≤ 1000000) :
    Calls Try.prog 10 #[.pointer (some ⟨g, 0, none⟩), pval x] w (RAddP w B g vz vp Z (addP P x)) := by
  unfold addP
  by_cases hr : rightP x = true
  · rw [if_pos hr]
    exact raddP_yes B g vz vp Z P x w h hr hL
  · rw [if_neg hr]
    have R := Lib.hid (fun W => rrightP_any x W)
    rw [show rightP x = false by simpa using hr] at R
    have B0 := Lib.hid (alloc_below w (.cells #[.int .i64 x.id, .int .i64 x.limit, .int .i64 x.budget] 36))
    have FS := Lib.hid (fun (W : World) (hW : Below w.heap.size w W) => raddP_same (n := 1) h hW)
    clear hr h
    obtain ⟨a, b, c⟩ := x
    unfold pval at *
    simp only at R B0 ⊢
    go_enter Try.func10, Try.ntmps10
    go_wp2_with fail
    refine (R.out _).mono ?_
    rintro e w1 ⟨rfl, hb⟩
    have B1 := Lib.hid (B0.out.trans (hb.mono B0.out.size))
    clear hb
    go_wp2
    go_ret
    exact ⟨rfl, (FS.out _ B1.out).2⟩
end Ms
end Go.Proofs.Ytpceoklacpcfkaa
