/- Layer 14's laws over arguments that came in. Conditions: none but what comes in. -/
import Derived.Test.YtgmjmkkhoibbcaaDoorKpIn
import Derived.Test.YtgmjmkkhoibbcaaDoorKpL2
import Derived.Test.YtgmjmkkhoibbcaaDoorKpL3
namespace Go.Proofs.YtgmjmkkhoibbcaaDoor
open Go.RowKit Lo

namespace Kp
theorem ktells_all (I : Face) (v0 : Value) (x0 : Ms.Pd) (v1 : Value) (x1 : Lv) (v2 : Value) (x2 : Int × Int × Int) (W : World) (h0 : InP W v0 x0) (h1 : InL W v1 x1) (h2 : In3 W v2 x2) (hR : I.R W) :
    Calls Tryd.prog 3 #[v0, v1, v2] W fun e w' => e = .returned (.bool true) ∧ Below W.heap.size W w' := by
  obtain ⟨t0, t1, t2⟩ := x2
  obtain ⟨rfl, _⟩ := h0
  obtain ⟨rfl, hS, _⟩ := h1
  obtain ⟨rfl, _⟩ := h2
  by_cases hn : 60 < x1.n
  · exact ktells_long I x0 x1 t0 t1 t2 W hR hn
  · exact ktells_short I x0 x1 t0 t1 t2 W hR hS (by omega)
theorem knever_all (I : Face) (v0 : Value) (x0 : Ms.Pd) (v1 : Value) (x1 : Lv) (v2 : Value) (x2 : Int × Int × Int × Int) (W : World) (h0 : InP W v0 x0) (h1 : InL W v1 x1) (h2 : In4 W v2 x2) (hR : I.R W) :
    Calls Tryd.prog 4 #[v0, v1, v2] W fun e w' => e = .returned (.bool true) ∧ Below W.heap.size W w' := by
  obtain ⟨t0, t1, t2, t3⟩ := x2
  obtain ⟨rfl, _⟩ := h0
  obtain ⟨rfl, hS, _⟩ := h1
  obtain ⟨rfl, _⟩ := h2
  by_cases hn : 60 < x1.n
  · exact knever_long I x0 x1 t0 t1 t2 t3 W hR hn
  · exact knever_short I x0 x1 t0 t1 t2 t3 W hR hS (by omega)
end Kp
set_option maxRecDepth 100000 in
/-- A law's arguments, read: a product, a lot, numbers. -/
theorem kt_arg0_of {H : Type} {enc : TypeId × Value → H} {W : World} {base : Nat} {v : Value} {d : DataW H} {ps : List MemPlace} (hv : Value.okWide Tryd.prog W .any base 23 v) (h : DataW.Trod enc Tryd.prog W 0 (fun _ => true) true 23 v d ps) :
    ∃ x, Kp.InP W v x := Kp.inP_of hv h
set_option maxRecDepth 100000 in
theorem kt_arg1_of {H : Type} {enc : TypeId × Value → H} {W : World} {base : Nat} {v : Value} {d : DataW H} {ps : List MemPlace} (hv : Value.okWide Tryd.prog W .any base 27 v) (h : DataW.Trod enc Tryd.prog W 0 (fun _ => true) true 27 v d ps) :
    ∃ x, Kp.InL W v x := Kp.inL_of hv h
set_option maxRecDepth 100000 in
theorem kt_arg2_of {H : Type} {enc : TypeId × Value → H} {W : World} {base : Nat} {v : Value} {d : DataW H} {ps : List MemPlace} (hv : Value.okWide Tryd.prog W .any base 28 v) (h : DataW.Trod enc Tryd.prog W 0 (fun _ => true) true 28 v d ps) :
    ∃ x, Kp.In3 W v x := Kp.in3_of hv h
set_option maxRecDepth 100000 in
theorem kn_arg0_of {H : Type} {enc : TypeId × Value → H} {W : World} {base : Nat} {v : Value} {d : DataW H} {ps : List MemPlace} (hv : Value.okWide Tryd.prog W .any base 23 v) (h : DataW.Trod enc Tryd.prog W 0 (fun _ => true) true 23 v d ps) :
    ∃ x, Kp.InP W v x := Kp.inP_of hv h
set_option maxRecDepth 100000 in
theorem kn_arg1_of {H : Type} {enc : TypeId × Value → H} {W : World} {base : Nat} {v : Value} {d : DataW H} {ps : List MemPlace} (hv : Value.okWide Tryd.prog W .any base 27 v) (h : DataW.Trod enc Tryd.prog W 0 (fun _ => true) true 27 v d ps) :
    ∃ x, Kp.InL W v x := Kp.inL_of hv h
set_option maxRecDepth 100000 in
theorem kn_arg2_of {H : Type} {enc : TypeId × Value → H} {W : World} {base : Nat} {v : Value} {d : DataW H} {ps : List MemPlace} (hv : Value.okWide Tryd.prog W .any base 41 v) (h : DataW.Trod enc Tryd.prog W 0 (fun _ => true) true 41 v d ps) :
    ∃ x, Kp.In4 W v x := Kp.in4_of hv h
end Go.Proofs.YtgmjmkkhoibbcaaDoor
