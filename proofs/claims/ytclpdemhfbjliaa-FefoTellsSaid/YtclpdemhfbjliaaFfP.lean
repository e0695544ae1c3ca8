/- Layer 15's laws over arguments that came in. Conditions: the contracts of package fefo, and what comes in. -/
import Derived.Test.YtclpdemhfbjliaaLtIn
import Derived.Test.YtclpdemhfbjliaaFfL3
namespace Go.Proofs.Ytclpdemhfbjliaa
open Go.RowKit Lo Go.ChangeShapes Go.WideShapes

namespace Ff
set_option maxRecDepth 100000 in
set_option maxHeartbeats 16000000 in
theorem ffirst_long (I : Face) (p : Option Addr) (n c : Nat) (pr u : Int) (w : World) (hn : 60 < n) (hn2 : n ≤ 9223372036854775807) :
    Calls Try.prog 4 #[.slice p n c, .int .i64 pr, .int .i64 u] w fun e w' => e = .returned (.bool true) ∧ Below w.heap.size w w' := by
  have AL := Lib.hid (fun W => falive_any I W)
  have t0 : decide (((n : Nat) : Int) > 60) = true := by simp; omega
  have hn3 : ((n : Nat) : Int) ≤ 9223372036854775807 := by omega
  clear hn hn2
  go_enter Try.func4, Try.ntmps4
  go_wp2_with fail
  refine (AL.out _).mono ?_
  rintro e w2 ⟨rfl, hb⟩
  have B2 := Lib.hid hb
  clear hb
  go_wp2
  go_ret
  exact ⟨rfl, B2.out⟩
/-- Lots that came in. -/
structure Ls where
  p : Option Addr
  n : Nat
  c : Nat
def InLs (W : World) (v : Value) (x : Ls) : Prop := v = .slice x.p x.n x.c ∧ x.n ≤ x.c ∧ B6n x.n ∧ ∃ l, Rw 8 lcells W x.p x.n l ∧ ∀ y ∈ l, St W y ∧ B6n y.n
theorem tells_all (I : Face) (v0 : Value) (x0 : Ls) (v1 : Value) (x1 : Int) (v2 : Value) (x2 : Int) (W : World) (h0 : InLs W v0 x0) (h1 : InI .i64 v1 x1) (h2 : InI .i64 v2 x2) :
    Calls Try.prog 3 #[v0, v1, v2] W fun e w' => e = .returned (.bool true) ∧ Below W.heap.size W w' := by
  obtain ⟨rfl, hnc, hb, l, hA, _⟩ := h0
  obtain ⟨rfl, _⟩ := h1
  obtain ⟨rfl, hw⟩ := h2
  have hu := Se.i64_of hw
  by_cases hn : 60 < x0.n
  · exact ftells_long I _ _ _ x1 x2 W hn hb
  · exact ftells_short I _ _ _ l x1 x2 W hA (by omega) hnc hu.1 hu.2
theorem first_all (I : Face) (v0 : Value) (x0 : Ls) (v1 : Value) (x1 : Int) (v2 : Value) (x2 : Int) (W : World) (h0 : InLs W v0 x0) (h1 : InI .i64 v1 x1) (h2 : InI .i64 v2 x2) :
    Calls Try.prog 4 #[v0, v1, v2] W fun e w' => e = .returned (.bool true) ∧ Below W.heap.size W w' := by
  obtain ⟨rfl, hnc, hb, l, hA, _⟩ := h0
  obtain ⟨rfl, _⟩ := h1
  obtain ⟨rfl, hw⟩ := h2
  have hu := Se.i64_of hw
  by_cases hn : 60 < x0.n
  · exact ffirst_long I _ _ _ x1 x2 W hn hb
  · exact ffirst_short I _ _ _ l x1 x2 W hA (by omega) hnc hu.1 hu.2
end Ff
set_option maxRecDepth 100000 in
/-- The laws' arguments, read: lots, a product, units. -/
theorem ff_arg0_of {H : Type} {enc : TypeId × Value → H} {W : World} {base : Nat} {v : Value} {d : DataW H} {ps : List MemPlace} (hv : Value.okWide Try.prog W .any base 22 v) (h : DataW.Trod enc Try.prog W 0 (fun _ => true) true 22 v d ps) :
    ∃ x, Ff.InLs W v x := by
  obtain ⟨a, len, cap, rfl⟩ := okWide_slice Try.underlying22 hv
  obtain ⟨fuel, hf⟩ := h
  obtain ⟨p, n, c, e, g1, g2, l, hA, hB⟩ := lrowsL_of hf
  simp only [Value.cells, List.cons.injEq, and_true, Value.slice.injEq] at e
  obtain ⟨rfl, rfl, rfl⟩ := e
  exact ⟨⟨a, len, cap⟩, rfl, g1, g2, l, hA, hB⟩
theorem ff_arg1_of {H : Type} {enc : TypeId × Value → H} {W : World} {base : Nat} {v : Value} {d : DataW H} {ps : List MemPlace} (hv : Value.okWide Try.prog W .any base 3 v) (h : DataW.Trod enc Try.prog W 0 (fun _ => true) true 3 v d ps) : ∃ x, InI .i64 v x := inI_of Try.underlying3 hv h
theorem ff_arg2_of {H : Type} {enc : TypeId × Value → H} {W : World} {base : Nat} {v : Value} {d : DataW H} {ps : List MemPlace} (hv : Value.okWide Try.prog W .any base 3 v) (h : DataW.Trod enc Try.prog W 0 (fun _ => true) true 3 v d ps) : ∃ x, InI .i64 v x := inI_of Try.underlying3 hv h
end Go.Proofs.Ytclpdemhfbjliaa
