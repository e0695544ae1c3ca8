/- The laws of layer 8 over arguments that came in. No condition but those written. -/
import Derived.Test.YtfdakkghikimcaaDrPf
import Derived.Test.YtfdakkghikimcaaDrArg
import Derived.Test.YtfdakkghikimcaaIn2
import Derived.Test.YtfdakkghikimcaaDrL2
import Derived.Test.YtfdakkghikimcaaDrL3
import Derived.Test.YtfdakkghikimcaaDrL4
namespace Go.Proofs.Ytfdakkghikimcaa
open Go.RowKit Go.ChangeShapes Go.WideShapes

theorem own : ownKnob Try.prog.godebug = none := by kernel_rfl
theorem u8_of {n : Int} (h : (Lit.int .u8 n).wf = true) : ∃ m : Nat, n = (m : Int) ∧ m < 256 := by
  have h1 := (Lit.wf_int_iff .u8 n).1 h
  have e1 : IntKind.u8.min = 0 := by decide
  have e2 : IntKind.u8.max = 255 := by decide
  rw [e1, e2] at h1
  exact ⟨n.toNat, by omega, by omega⟩
theorem o_arg0_of {H : Type} {enc : TypeId × Value → H} {W : World} {base : Nat} {v : Value} {d : DataW H} {ps : List MemPlace} (hv : Value.okWide Try.prog W .any base 22 v) (h : DataW.Trod enc Try.prog W 0 (fun _ => true) true 22 v d ps) :
    ∃ x, Dr.InM W v x := Dr.inM_of hv h
theorem order_in (v0 : Value) (y : Bs) (W : World) (w0 : Dr.InM W v0 y) :
    Calls Try.prog 4 #[v0] W fun e w' => e = .returned (.bool true) ∧ Below W.heap.size W w' := by
  obtain ⟨rfl, hnc, hbig, l, hA, hb⟩ := w0
  by_cases hn : 100 < y.n
  · exact Dr.order_long Dr.dface y.p y.n y.c W hn hbig
  · exact Dr.order_yes Dr.dface y.p y.n y.c l W (by omega) hnc hA hb
theorem t_arg0_of {H : Type} {enc : TypeId × Value → H} {W : World} {base : Nat} {v : Value} {d : DataW H} {ps : List MemPlace} (hv : Value.okWide Try.prog W .any base 22 v) (h : DataW.Trod enc Try.prog W 0 (fun _ => true) true 22 v d ps) :
    ∃ x, Dr.InM W v x := Dr.inM_of hv h
theorem t_arg1_of {H : Type} {enc : TypeId × Value → H} {W : World} {base : Nat} {v : Value} {d : DataW H} {ps : List MemPlace} (hv : Value.okWide Try.prog W .any base 3 v) (h : DataW.Trod enc Try.prog W 0 (fun _ => true) true 3 v d ps) :
    ∃ x, InI .i64 v x := inI_of Try.underlying3 hv h
theorem t_arg2_of {H : Type} {enc : TypeId × Value → H} {W : World} {base : Nat} {v : Value} {d : DataW H} {ps : List MemPlace} (hv : Value.okWide Try.prog W .any base 23 v) (h : DataW.Trod enc Try.prog W 0 (fun _ => true) true 23 v d ps) :
    ∃ x, Se.In2 .i64 v x := Se.in2_of Try.underlying23 Try.underlying3 (by kernel_rfl) (by kernel_rfl) hv h
theorem tells_in (v0 : Value) (y : Bs) (v1 : Value) (j : Int) (v2 : Value) (m : Int × Int) (W : World) (w0 : Dr.InM W v0 y) (w1 : InI .i64 v1 j) (w2 : Se.In2 .i64 v2 m) :
    Calls Try.prog 3 #[v0, v1, v2] W fun e w' => e = .returned (.bool true) ∧ Below W.heap.size W w' := by
  obtain ⟨rfl, hnc, hbig, l, hA, hb⟩ := w0
  obtain ⟨rfl, hj⟩ := w1
  obtain ⟨rfl, ha, hb2⟩ := w2
  have h1 := Se.i64_of hj
  have h2 := Se.i64_of ha
  have h3 := Se.i64_of hb2
  by_cases hn : 100 < y.n
  · exact Dr.dtells_long Dr.dface y.p y.n y.c j m.1 m.2 W hn hbig
  · exact Dr.dtells_yes Dr.dface y.p y.n y.c l j m.1 m.2 W (by omega) hnc hA hb h1.1 h1.2 h2.1 h2.2 h3.1 h3.2
theorem p_arg0_of {H : Type} {enc : TypeId × Value → H} {W : World} {base : Nat} {v : Value} {d : DataW H} {ps : List MemPlace} (hv : Value.okWide Try.prog W .any base 22 v) (h : DataW.Trod enc Try.prog W 0 (fun _ => true) true 22 v d ps) :
    ∃ x, Dr.InM W v x := Dr.inM_of hv h
theorem p_arg1_of {H : Type} {enc : TypeId × Value → H} {W : World} {base : Nat} {v : Value} {d : DataW H} {ps : List MemPlace} (hv : Value.okWide Try.prog W .any base 5 v) (h : DataW.Trod enc Try.prog W 0 (fun _ => true) true 5 v d ps) :
    ∃ x, InI .u8 v x := inI_of Try.underlying5 hv h
theorem p_arg2_of {H : Type} {enc : TypeId × Value → H} {W : World} {base : Nat} {v : Value} {d : DataW H} {ps : List MemPlace} (hv : Value.okWide Try.prog W .any base 48 v) (h : DataW.Trod enc Try.prog W 0 (fun _ => true) true 48 v d ps) :
    ∃ x, Se.In2 .u32 v x := Se.in2_of Try.underlying48 Try.underlying47 (by kernel_rfl) (by kernel_rfl) hv h
theorem open_in (v0 : Value) (y : Bs) (v1 : Value) (j : Int) (v2 : Value) (m : Int × Int) (W : World) (w0 : Dr.InM W v0 y) (w1 : InI .u8 v1 j) (w2 : Se.In2 .u32 v2 m) :
    Calls Try.prog 5 #[v0, v1, v2] W fun e w' => e = .returned (.bool true) ∧ Below W.heap.size W w' := by
  obtain ⟨rfl, hnc, hbig, l, hA, hb⟩ := w0
  obtain ⟨rfl, hj⟩ := w1
  obtain ⟨m1, m2⟩ := m
  obtain ⟨rfl, ha, hb2⟩ := w2
  obtain ⟨j, rfl, h1⟩ := u8_of hj
  obtain ⟨u1, e1, h2⟩ := Se.u32_of ha
  obtain ⟨u2, e2, h3⟩ := Se.u32_of hb2
  simp only at e1 e2
  subst e1 e2
  by_cases hn : 100 < y.n
  · exact Dr.dopn_long Dr.dface y.p y.n y.c j u1 u2 W hn hbig
  · exact Dr.dopn_yes Dr.dface y.p y.n y.c l j u1 u2 W (by omega) hnc hA hb h1 h2 h3
end Go.Proofs.Ytfdakkghikimcaa
