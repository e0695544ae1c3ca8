/- ExcessAdded over arguments that came in. No condition but those written. -/
import Derived.Test.YtfmnbmjfkplieaaExL4
import Derived.Test.YtfmnbmjfkplieaaExL3
namespace Go.Proofs.Ytfmnbmjfkplieaa
open Go.RowKit Go.ChangeShapes Go.WideShapes

theorem a_arg0_of {H : Type} {enc : TypeId × Value → H} {W : World} {base : Nat} {v : Value} {d : DataW H} {ps : List MemPlace} (hv : Value.okWide Try.prog W .any base 22 v) (h : DataW.Trod enc Try.prog W 0 (fun _ => true) true 22 v d ps) :
    ∃ x, Ex.In3 .i64 v x := s_arg0_of hv h
theorem a_arg1_of {H : Type} {enc : TypeId × Value → H} {W : World} {base : Nat} {v : Value} {d : DataW H} {ps : List MemPlace} (hv : Value.okWide Try.prog W .any base 23 v) (h : DataW.Trod enc Try.prog W 0 (fun _ => true) true 23 v d ps) :
    ∃ x, Se.InR W v x := Se.inR_of hv h
theorem a_arg2_of {H : Type} {enc : TypeId × Value → H} {W : World} {base : Nat} {v : Value} {d : DataW H} {ps : List MemPlace} (hv : Value.okWide Try.prog W .any base 47 v) (h : DataW.Trod enc Try.prog W 0 (fun _ => true) true 47 v d ps) :
    ∃ x, Ex.In3 .u32 v x := Ex.in3_of Try.underlying47 Try.underlying46 (by kernel_rfl) (by kernel_rfl) hv h
theorem added_in (v0 : Value) (x : Int × Int × Int) (v1 : Value) (y : Bs) (v2 : Value) (m : Int × Int × Int) (W : World) (w0 : Ex.In3 .i64 v0 x) (w1 : Se.InR W v1 y) (w2 : Ex.In3 .u32 v2 m) :
    Calls Try.prog 4 #[v0, v1, v2] W fun e w' => e = .returned (.bool true) ∧ Below W.heap.size W w' := by
  obtain ⟨rfl, _⟩ := w0
  obtain ⟨rfl, hnc, hbig, l, hA⟩ := w1
  obtain ⟨a, b, c⟩ := x
  obtain ⟨m1, m2, m3⟩ := m
  obtain ⟨rfl, ha, hb, hc⟩ := w2
  obtain ⟨u1, e1, h1⟩ := Se.u32_of ha
  obtain ⟨u2, e2, h2⟩ := Se.u32_of hb
  obtain ⟨u3, e3, h3⟩ := Se.u32_of hc
  simp only at e1 e2 e3
  subst e1 e2 e3
  by_cases hM : Se.mayB a b = true ∧ Se.tenB c = true
  · by_cases hn : 60 < y.n
    · exact Ex.added_long Ex.xface a b c y.p y.n y.c u1 u2 u3 W hM.1 hM.2 hn hbig
    · exact Ex.added_yes Ex.xface a b c y.p y.n y.c l u1 u2 u3 W hM.1 hM.2 (by omega) hnc hA h1 h2 h3
  · exact Ex.added_no Ex.xface a b c y.p y.n y.c u1 u2 u3 W (Ex.both_no hM)
end Go.Proofs.Ytfmnbmjfkplieaa
