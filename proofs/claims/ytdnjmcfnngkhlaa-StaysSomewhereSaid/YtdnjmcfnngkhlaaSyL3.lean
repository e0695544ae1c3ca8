/- The law of layer 9 over arguments that came in. No condition but those written. -/
import Derived.Test.YtdnjmcfnngkhlaaIn
import Derived.Test.YtdnjmcfnngkhlaaSyL2
namespace Go.Proofs.Ytdnjmcfnngkhlaa
open Go.RowKit Go.ChangeShapes Go.WideShapes

namespace Sy
theorem u8_of {n : Int} (h : (Lit.int .u8 n).wf = true) : ∃ m : Nat, n = (m : Int) ∧ m < 256 := by
  have h1 := (Lit.wf_int_iff .u8 n).1 h
  have e1 : IntKind.u8.min = 0 := by decide
  have e2 : IntKind.u8.max = 255 := by decide
  rw [e1, e2] at h1
  exact ⟨n.toNat, by omega, by omega⟩
theorem u16_of {n : Int} (h : (Lit.int .u16 n).wf = true) : ∃ m : Nat, n = (m : Int) ∧ m ≤ 65535 := by
  have h1 := (Lit.wf_int_iff .u16 n).1 h
  have e1 : IntKind.u16.min = 0 := by decide
  have e2 : IntKind.u16.max = 65535 := by decide
  rw [e1, e2] at h1
  exact ⟨n.toNat, by omega, by omega⟩
theorem gos_of {H : Type} {enc : TypeId × Value → H} {w : World} {base : Nat} {spare : Nat → Bool} {held : Bool} {fuel : Nat} {p : Option Addr} {len cap : Nat} {y : DataW H × List MemPlace}
    (h : DataW.trod enc Try.prog w base spare held fuel 22 [.slice p len cap] = some y) : len ≤ cap ∧ len ≤ 9223372036854775807 ∧ ∃ l, Rw 2 gcells w p len l ∧ ∀ x ∈ l, Small x := by
  rcases open_parts Try.underlying22 Try.underlying27 (m := 2) (by kernel_rfl) h with h0 | ⟨a, n, c, hcs, hl, hm, hp⟩
  · simp only [List.cons.injEq, and_true, Value.slice.injEq] at h0
    obtain ⟨rfl, rfl, rfl⟩ := h0
    exact ⟨Nat.le_refl _, Nat.zero_le _, [], rw_nil w, fun y hy => by simp at hy⟩
  · simp only [List.cons.injEq, and_true, Value.slice.injEq] at hcs
    obtain ⟨rfl, rfl, rfl⟩ := hcs
    unfold maxLen at hm
    refine ⟨hl, by omega, ?_⟩
    obtain ⟨b, o, spot⟩ := a
    have hs : 0 < len → spot = none := by
      intro h0
      obtain ⟨part, n, hlen, hc, _⟩ := hp 0 h0
      match part, hlen with
      | [v0, v1], _ =>
        have k0 := hc 0 (by decide)
        simpa [Addr.add] using World.cell?_spot k0
    by_cases h0 : 0 < len
    case neg =>
      obtain rfl : len = 0 := by omega
      exact ⟨[], rw_zero w _, fun y hy => by simp at hy⟩
    obtain rfl := hs h0
    have key : ∀ i, i < len → ∃ t : St, (∀ j, j < 2 → w.cell? ⟨b, o + i * 2 + j, none⟩ = (gcells t)[j]?) ∧ Small t := by
      intro i hi
      obtain ⟨part, n, hlen, hc, hf⟩ := hp i hi
      match part, hlen with
      | [v0, v1], _ =>
        obtain ⟨y0, f0⟩ := hf 0 _ rfl
        change DataW.trod enc Try.prog w base spare held n 5 (List.take (Try.prog.cellsOf 5) (List.drop 0 [v0, v1])) = some y0 at f0
        obtain ⟨y1, f1⟩ := hf 1 _ rfl
        change DataW.trod enc Try.prog w base spare held n 5 (List.take (Try.prog.cellsOf 5) (List.drop 1 [v0, v1])) = some y1 at f1
        rw [show Try.prog.cellsOf 5 = 1 by kernel_rfl] at f0 f1
        obtain ⟨m0, e0, _, g0⟩ := DataW.trod_int Try.underlying5 f0
        obtain ⟨m1, e1, _, g1⟩ := DataW.trod_int Try.underlying5 f1
        obtain ⟨u0, rfl, q0⟩ := u8_of g0
        obtain ⟨u1, rfl, q1⟩ := u8_of g1
        simp only [List.drop_zero, List.drop_succ_cons, List.take_succ_cons, List.take_zero, List.cons.injEq, and_true] at e0 e1
        subst e0 e1
        refine ⟨⟨u0, u1⟩, fun j hj => ?_, q0, q1⟩
        have := hc j hj
        rw [add_none, ← Nat.add_assoc] at this
        exact this
    obtain ⟨l, hll, hlk⟩ := list_of (⟨0, 0⟩ : St) (fun i t => (∀ j, j < 2 → w.cell? ⟨b, o + i * 2 + j, none⟩ = (gcells t)[j]?) ∧ Small t) len key
    refine ⟨l, ⟨hll, fun _ => ⟨b, o, rfl, fun j x hx i hi => ?_⟩⟩, fun x hx => ?_⟩
    case refine_2 =>
      obtain ⟨j, hj, e⟩ := List.mem_iff_getElem.1 hx
      have := (hlk j (by omega)).2
      rwa [List.getD_eq_getElem?_getD, List.getElem?_eq_getElem hj, e] at this
    have hj := (List.getElem?_eq_some_iff.1 hx).1
    have := (hlk j (by omega)).1 i hi
    rw [List.getD_eq_getElem?_getD, hx] at this
    exact this
/-- Steps that came in. -/
def InG (W : World) (v : Value) (x : Bs) : Prop := v = .slice x.p x.n x.c ∧ x.n ≤ x.c ∧ x.n ≤ 9223372036854775807 ∧ ∃ l, Rw 2 gcells W x.p x.n l ∧ ∀ y ∈ l, Small y
theorem inG_of {H : Type} {enc : TypeId × Value → H} {W : World} {base : Nat} {v : Value} {d : DataW H} {ps : List MemPlace} (hv : Value.okWide Try.prog W .any base 22 v) (h : DataW.Trod enc Try.prog W 0 (fun _ => true) true 22 v d ps) :
    ∃ x, InG W v x := by
  obtain ⟨a, len, cap, rfl⟩ := okWide_slice Try.underlying22 hv
  obtain ⟨fuel, hf⟩ := h
  obtain ⟨g1, g2, l, hA⟩ := gos_of hf
  exact ⟨⟨a, len, cap⟩, rfl, g1, g2, l, hA⟩
end Sy
theorem own : ownKnob Try.prog.godebug = none := by kernel_rfl
theorem s_arg0_of {H : Type} {enc : TypeId × Value → H} {W : World} {base : Nat} {v : Value} {d : DataW H} {ps : List MemPlace} (hv : Value.okWide Try.prog W .any base 22 v) (h : DataW.Trod enc Try.prog W 0 (fun _ => true) true 22 v d ps) :
    ∃ x, Sy.InG W v x := Sy.inG_of hv h
theorem s_arg1_of {H : Type} {enc : TypeId × Value → H} {W : World} {base : Nat} {v : Value} {d : DataW H} {ps : List MemPlace} (hv : Value.okWide Try.prog W .any base 23 v) (h : DataW.Trod enc Try.prog W 0 (fun _ => true) true 23 v d ps) :
    ∃ x, InI .u16 v x := inI_of Try.underlying23 hv h
theorem somewhere_in (v0 : Value) (y : Bs) (v1 : Value) (m : Int) (W : World) (w0 : Sy.InG W v0 y) (w1 : InI .u16 v1 m) :
    Calls Try.prog 3 #[v0, v1] W fun e w' => e = .returned (.bool true) ∧ Below W.heap.size W w' := by
  obtain ⟨rfl, hnc, hbig, l, hA, hb⟩ := w0
  obtain ⟨rfl, hm⟩ := w1
  obtain ⟨u, rfl, h1⟩ := Sy.u16_of hm
  by_cases hn : 60 < y.n
  · exact Sy.some_long (Sy.alive_any Sy.sface) y.p y.n y.c u W hn hbig
  · exact Sy.some_yes Sy.sface (Sy.alive_any Sy.sface) y.p y.n y.c u l W (by omega) hnc hA hb h1
end Go.Proofs.Ytdnjmcfnngkhlaa
