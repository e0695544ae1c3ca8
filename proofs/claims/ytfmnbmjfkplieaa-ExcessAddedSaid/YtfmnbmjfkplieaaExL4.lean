/- ExcessSame over arguments that came in. No condition but those written. -/
import Derived.Test.YtfmnbmjfkplieaaExArg
import Derived.Test.YtfmnbmjfkplieaaExL2
import Derived.Test.YtfmnbmjfkplieaaExP9
namespace Go.Proofs.Ytfmnbmjfkplieaa
open Go.RowKit Go.ChangeShapes Go.WideShapes

theorem own : ownKnob Try.prog.godebug = none := by kernel_rfl
theorem s_arg0_of {H : Type} {enc : TypeId × Value → H} {W : World} {base : Nat} {v : Value} {d : DataW H} {ps : List MemPlace} (hv : Value.okWide Try.prog W .any base 22 v) (h : DataW.Trod enc Try.prog W 0 (fun _ => true) true 22 v d ps) :
    ∃ x, Ex.In3 .i64 v x := Ex.in3_of Try.underlying22 Try.underlying3 (by kernel_rfl) (by kernel_rfl) hv h
theorem s_arg1_of {H : Type} {enc : TypeId × Value → H} {W : World} {base : Nat} {v : Value} {d : DataW H} {ps : List MemPlace} (hv : Value.okWide Try.prog W .any base 23 v) (h : DataW.Trod enc Try.prog W 0 (fun _ => true) true 23 v d ps) :
    ∃ x, Se.InR W v x := Se.inR_of hv h
theorem s_arg2_of {H : Type} {enc : TypeId × Value → H} {W : World} {base : Nat} {v : Value} {d : DataW H} {ps : List MemPlace} (hv : Value.okWide Try.prog W .any base 49 v) (h : DataW.Trod enc Try.prog W 0 (fun _ => true) true 49 v d ps) :
    ∃ x, Se.In2 .u32 v x := Se.in2_of Try.underlying49 Try.underlying46 (by kernel_rfl) (by kernel_rfl) hv h
theorem same_in (v0 : Value) (x : Int × Int × Int) (v1 : Value) (y : Bs) (v2 : Value) (m : Int × Int) (W : World) (w0 : Ex.In3 .i64 v0 x) (w1 : Se.InR W v1 y) (w2 : Se.In2 .u32 v2 m) :
    Calls Try.prog 5 #[v0, v1, v2] W fun e w' => e = .returned (.bool true) ∧ Below W.heap.size W w' := by
  obtain ⟨rfl, _⟩ := w0
  obtain ⟨rfl, hnc, hbig, l, hA⟩ := w1
  obtain ⟨a, b, c⟩ := x
  obtain ⟨m1, m2⟩ := m
  obtain ⟨rfl, ha, hb⟩ := w2
  obtain ⟨u1, e1, h1⟩ := Se.u32_of ha
  obtain ⟨u2, e2, h2⟩ := Se.u32_of hb
  simp only at e1 e2
  subst e1 e2
  by_cases hM : Se.mayB a b = true ∧ Se.tenB c = true
  · by_cases hn : 60 < y.n
    · exact Ex.same_long Ex.xface a b c y.p y.n y.c u1 u2 W hM.1 hM.2 hn hbig
    · exact Ex.same_yes Ex.xface a b c y.p y.n y.c l u1 u2 W hM.1 hM.2 (by omega) hnc hA h1 h2
  · exact Ex.same_no Ex.xface a b c y.p y.n y.c u1 u2 W (Ex.both_no hM)
end Go.Proofs.Ytfmnbmjfkplieaa
