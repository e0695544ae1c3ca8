/- Three numbers that came in. No condition but those written. -/
import Derived.Test.YtfmnbmjfkplieaaSeArg
namespace Go.Proofs.Ytfmnbmjfkplieaa
open Go.RowKit Go.ChangeShapes Go.WideShapes

namespace Ex
/-- Three numbers that came in. -/
def In3 (k : IntKind) (v : Value) (x : Int × Int × Int) : Prop := v = .agg #[.int k x.1, .int k x.2.1, .int k x.2.2] ∧ (Lit.int k x.1).wf = true ∧ (Lit.int k x.2.1).wf = true ∧ (Lit.int k x.2.2).wf = true
theorem in3_of {H : Type} {enc : TypeId × Value → H} {W : World} {base : Nat} {v : Value} {d : DataW H} {ps : List MemPlace} {t e : TypeId} {k : IntKind} (ht : Try.prog.underlying t = some (.array 3 e)) (he : Try.prog.underlying e = some (.int k)) (hm : Try.prog.cellsOf t = 3) (hc : Try.prog.cellsOf e = 1) (hv : Value.okWide Try.prog W .any base t v)
    (h : DataW.Trod enc Try.prog W 0 (fun _ => true) true t v d ps) : ∃ x, In3 k v x := by
  obtain ⟨cs, rfl, hl, hf⟩ := open_array ht hm hc hv h
  match cs, hl with
  | [v0, v1, v2], _ =>
    obtain ⟨n0, y0, f0⟩ := hf 0 (by decide)
    obtain ⟨n1, y1, f1⟩ := hf 1 (by decide)
    obtain ⟨n2, y2, f2⟩ := hf 2 (by decide)
    simp only [Nat.zero_mul, Nat.one_mul, List.drop_zero, List.drop_succ_cons, List.take_succ_cons, List.take_zero] at f0 f1 f2
    obtain ⟨m0, e0, _, g0⟩ := DataW.trod_int he f0
    obtain ⟨m1, e1, _, g1⟩ := DataW.trod_int he f1
    obtain ⟨m2, e2, _, g2⟩ := DataW.trod_int he f2
    simp only [List.cons.injEq, and_true] at e0 e1 e2
    subst e0 e1 e2
    exact ⟨(m0, m1, m2), rfl, g0, g1, g2⟩
end Ex
end Go.Proofs.Ytfmnbmjfkplieaa
