/- Arguments that came in: bytes, whole numbers, how each reads. No condition but those written. -/
import Derived.Test.YtpkniomjohjbiaaMem
import Derived.Test.YtpkniomjohjbiaaOpen
namespace Go.Proofs.Ytpkniomjohjbiaa
open Go.RowKit Go.ChangeShapes Go.WideShapes
/-- Bytes that came in. -/
structure Bs where
  p : Option Addr
  n : Nat
  c : Nat
def InB (W : World) (v : Value) (x : Bs) : Prop := v = .slice x.p x.n x.c ∧ x.n ≤ x.c ∧ x.n ≤ 9223372036854775807 ∧ ∃ l, At W x.p x.n l
/-- A whole number that came in. -/
def InI (k : IntKind) (v : Value) (x : Int) : Prop := v = .int k x ∧ (Lit.int k x).wf = true
set_option maxRecDepth 100000 in
theorem inI_of {H : Type} {enc : TypeId × Value → H} {W : World} {base : Nat} {v : Value} {d : DataW H} {ps : List MemPlace} {t : TypeId} {k : IntKind} (ht : Try.prog.underlying t = some (.int k)) (hv : Value.okWide Try.prog W .any base t v)
    (h : DataW.Trod enc Try.prog W 0 (fun _ => true) true t v d ps) : ∃ x, InI k v x := by
  obtain ⟨n, rfl⟩ := okWide_int ht hv
  obtain ⟨fuel, hf⟩ := h
  obtain ⟨m, hm, _, hw⟩ := DataW.trod_int ht hf
  simp [Value.cells] at hm
  exact ⟨n, rfl, hm ▸ hw⟩
end Go.Proofs.Ytpkniomjohjbiaa
