/- Pairs of numbers that came in; numbers' bounds. No condition but those written. -/
import Derived.Test.YtbahilakfgbgpaaDoorIn
namespace Go.Proofs.YtbahilakfgbgpaaDoor
open Go.RowKit Go.ChangeShapes Go.WideShapes

namespace Se
/-- Two numbers that came in. -/
def In2 (k : IntKind) (v : Value) (x : Int × Int) : Prop := v = .agg #[.int k x.1, .int k x.2] ∧ (Lit.int k x.1).wf = true ∧ (Lit.int k x.2).wf = true
set_option maxRecDepth 100000 in
theorem in2_of {H : Type} {enc : TypeId × Value → H} {W : World} {base : Nat} {v : Value} {d : DataW H} {ps : List MemPlace} {t e : TypeId} {k : IntKind} (ht : Tryd.prog.underlying t = some (.array 2 e)) (he : Tryd.prog.underlying e = some (.int k)) (hm : Tryd.prog.cellsOf t = 2) (hc : Tryd.prog.cellsOf e = 1) (hv : Value.okWide Tryd.prog W .any base t v)
    (h : DataW.Trod enc Tryd.prog W 0 (fun _ => true) true t v d ps) : ∃ x, In2 k v x := by
  obtain ⟨cs, rfl, hl, hf⟩ := open_array ht hm hc hv h
  match cs, hl with
  | [v0, v1], _ =>
    obtain ⟨n0, y0, f0⟩ := hf 0 (by decide)
    obtain ⟨n1, y1, f1⟩ := hf 1 (by decide)
    simp only [Nat.zero_mul, Nat.one_mul, List.drop_zero, List.drop_succ_cons, List.take_succ_cons, List.take_zero] at f0 f1
    obtain ⟨m0, e0, _, g0⟩ := DataW.trod_int he f0
    obtain ⟨m1, e1, _, g1⟩ := DataW.trod_int he f1
    simp only [List.cons.injEq, and_true] at e0 e1
    subst e0 e1
    exact ⟨(m0, m1), rfl, g0, g1⟩
theorem i64_of {n : Int} (h : (Lit.int .i64 n).wf = true) : -9223372036854775808 ≤ n ∧ n ≤ 9223372036854775807 := by
  have h1 := (Lit.wf_int_iff .i64 n).1 h
  have e1 : IntKind.i64.min = -9223372036854775808 := by decide
  have e2 : IntKind.i64.max = 9223372036854775807 := by decide
  rw [e1, e2] at h1
  omega
theorem u32_of {n : Int} (h : (Lit.int .u32 n).wf = true) : ∃ m : Nat, n = (m : Int) ∧ m < 4294967296 := by
  have h1 := (Lit.wf_int_iff .u32 n).1 h
  have e1 : IntKind.u32.min = 0 := by decide
  have e2 : IntKind.u32.max = 4294967295 := by decide
  rw [e1, e2] at h1
  exact ⟨n.toNat, by omega, by omega⟩
end Se
end Go.Proofs.YtbahilakfgbgpaaDoor
