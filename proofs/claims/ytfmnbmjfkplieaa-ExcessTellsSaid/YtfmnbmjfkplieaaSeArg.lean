/- Readings that came in, and pairs of numbers. No condition but those written. -/
import Derived.Test.YtfmnbmjfkplieaaIn
import Derived.Test.YtfmnbmjfkplieaaSe1
namespace Go.Proofs.Ytfmnbmjfkplieaa
open Go.RowKit Go.ChangeShapes Go.WideShapes

namespace Se
theorem rds_of {H : Type} {enc : TypeId × Value → H} {w : World} {base : Nat} {spare : Nat → Bool} {held : Bool} {fuel : Nat} {p : Option Addr} {len cap : Nat} {y : DataW H × List MemPlace}
    (h : DataW.trod enc Try.prog w base spare held fuel 23 [.slice p len cap] = some y) : len ≤ cap ∧ len ≤ 9223372036854775807 ∧ ∃ l, Rw 3 rcells w p len l := by
  rcases open_parts Try.underlying23 Try.underlying37 (m := 3) (by kernel_rfl) h with h0 | ⟨a, n, c, hcs, hl, hm, hp⟩
  · simp only [List.cons.injEq, and_true, Value.slice.injEq] at h0
    obtain ⟨rfl, rfl, rfl⟩ := h0
    exact ⟨Nat.le_refl _, Nat.zero_le _, [], rw_nil w⟩
  · simp only [List.cons.injEq, and_true, Value.slice.injEq] at hcs
    obtain ⟨rfl, rfl, rfl⟩ := hcs
    unfold maxLen at hm
    refine ⟨hl, by omega, ?_⟩
    obtain ⟨b, o, spot⟩ := a
    have hs : 0 < len → spot = none := by
      intro h0
      obtain ⟨part, n, hlen, hc, _⟩ := hp 0 h0
      match part, hlen with
      | [v0, v1, v2], _ =>
        have k0 := hc 0 (by decide)
        simpa [Addr.add] using World.cell?_spot k0
    by_cases h0 : 0 < len
    case neg =>
      obtain rfl : len = 0 := by omega
      exact ⟨[], rw_zero w _⟩
    obtain rfl := hs h0
    have key : ∀ i, i < len → ∃ t : Rd, ∀ j, j < 3 → w.cell? ⟨b, o + i * 3 + j, none⟩ = (rcells t)[j]? := by
      intro i hi
      obtain ⟨part, n, hlen, hc, hf⟩ := hp i hi
      match part, hlen with
      | [v0, v1, v2], _ =>
        obtain ⟨y0, f0⟩ := hf 0 _ rfl
        change DataW.trod enc Try.prog w base spare held n 3 (List.take (Try.prog.cellsOf 3) (List.drop 0 [v0, v1, v2])) = some y0 at f0
        obtain ⟨y1, f1⟩ := hf 1 _ rfl
        change DataW.trod enc Try.prog w base spare held n 3 (List.take (Try.prog.cellsOf 3) (List.drop 1 [v0, v1, v2])) = some y1 at f1
        obtain ⟨y2, f2⟩ := hf 2 _ rfl
        change DataW.trod enc Try.prog w base spare held n 3 (List.take (Try.prog.cellsOf 3) (List.drop 2 [v0, v1, v2])) = some y2 at f2
        rw [show Try.prog.cellsOf 3 = 1 by kernel_rfl] at f0 f1 f2
        obtain ⟨m0, e0, _, _⟩ := DataW.trod_int Try.underlying3 f0
        obtain ⟨m1, e1, _, _⟩ := DataW.trod_int Try.underlying3 f1
        obtain ⟨m2, e2, _, _⟩ := DataW.trod_int Try.underlying3 f2
        simp only [List.drop_zero, List.drop_succ_cons, List.take_succ_cons, List.take_zero, List.cons.injEq, and_true] at e0 e1 e2
        subst e0 e1 e2
        refine ⟨⟨m0, m1, m2⟩, fun j hj => ?_⟩
        have := hc j hj
        rw [add_none, ← Nat.add_assoc] at this
        exact this
    obtain ⟨l, hll, hlk⟩ := list_of (zero : Rd) (fun i t => ∀ j, j < 3 → w.cell? ⟨b, o + i * 3 + j, none⟩ = (rcells t)[j]?) len key
    refine ⟨l, hll, fun _ => ⟨b, o, rfl, fun j x hx i hi => ?_⟩⟩
    have hj := (List.getElem?_eq_some_iff.1 hx).1
    have := hlk j (by omega) i hi
    rw [List.getD_eq_getElem?_getD, hx] at this
    exact this
/-- Readings that came in. -/
def InR (W : World) (v : Value) (x : Bs) : Prop := v = .slice x.p x.n x.c ∧ x.n ≤ x.c ∧ x.n ≤ 9223372036854775807 ∧ ∃ l, Rw 3 rcells W x.p x.n l
theorem inR_of {H : Type} {enc : TypeId × Value → H} {W : World} {base : Nat} {v : Value} {d : DataW H} {ps : List MemPlace} (hv : Value.okWide Try.prog W .any base 23 v) (h : DataW.Trod enc Try.prog W 0 (fun _ => true) true 23 v d ps) :
    ∃ x, InR W v x := by
  obtain ⟨a, len, cap, rfl⟩ := okWide_slice Try.underlying23 hv
  obtain ⟨fuel, hf⟩ := h
  obtain ⟨g1, g2, l, hA⟩ := rds_of hf
  exact ⟨⟨a, len, cap⟩, rfl, g1, g2, l, hA⟩
/-- Two numbers that came in. -/
def In2 (k : IntKind) (v : Value) (x : Int × Int) : Prop := v = .agg #[.int k x.1, .int k x.2] ∧ (Lit.int k x.1).wf = true ∧ (Lit.int k x.2).wf = true
theorem in2_of {H : Type} {enc : TypeId × Value → H} {W : World} {base : Nat} {v : Value} {d : DataW H} {ps : List MemPlace} {t e : TypeId} {k : IntKind} (ht : Try.prog.underlying t = some (.array 2 e)) (he : Try.prog.underlying e = some (.int k)) (hm : Try.prog.cellsOf t = 2) (hc : Try.prog.cellsOf e = 1) (hv : Value.okWide Try.prog W .any base t v)
    (h : DataW.Trod enc Try.prog W 0 (fun _ => true) true t v d ps) : ∃ x, In2 k v x := by
  obtain ⟨cs, rfl, hl, hf⟩ := open_array ht hm hc hv h
  match cs, hl with
  | [v0, v1], _ =>
    obtain ⟨n0, y0, f0⟩ := hf 0 (by decide)
    obtain ⟨n1, y1, f1⟩ := hf 1 (by decide)
    simp only [Nat.zero_mul, Nat.one_mul, List.drop_zero, List.drop_succ_cons, List.take_succ_cons, List.take_zero] at f0 f1
    obtain ⟨m0, e0, _, g0⟩ := DataW.trod_int he f0
    obtain ⟨m1, e1, _, g1⟩ := DataW.trod_int he f1
    simp only [List.cons.injEq, and_true] at e0 e1
    subst e0 e1
    exact ⟨(m0, m1), rfl, g0, g1⟩
theorem i64_of {n : Int} (h : (Lit.int .i64 n).wf = true) : -9223372036854775808 ≤ n ∧ n ≤ 9223372036854775807 := by
  have h1 := (Lit.wf_int_iff .i64 n).1 h
  have e1 : IntKind.i64.min = -9223372036854775808 := by decide
  have e2 : IntKind.i64.max = 9223372036854775807 := by decide
  rw [e1, e2] at h1
  omega
theorem u32_of {n : Int} (h : (Lit.int .u32 n).wf = true) : ∃ m : Nat, n = (m : Int) ∧ m < 4294967296 := by
  have h1 := (Lit.wf_int_iff .u32 n).1 h
  have e1 : IntKind.u32.min = 0 := by decide
  have e2 : IntKind.u32.max = 4294967295 := by decide
  rw [e1, e2] at h1
  exact ⟨n.toNat, by omega, by omega⟩
end Se
end Go.Proofs.Ytfmnbmjfkplieaa
