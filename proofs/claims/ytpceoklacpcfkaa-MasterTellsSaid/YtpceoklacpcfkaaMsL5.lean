/- The laws of layer 10 over arguments that came in. No condition but those written. -/
import Derived.Test.YtpceoklacpcfkaaIn2
import Derived.Test.YtpceoklacpcfkaaMsPf
import Derived.Test.YtpceoklacpcfkaaMsL2
import Derived.Test.YtpceoklacpcfkaaMsL4
namespace Go.Proofs.Ytpceoklacpcfkaa
open Go.RowKit Go.ChangeShapes Go.WideShapes

namespace Ms
/-- A slice that came in. -/
structure Sl where
  p : Option Addr
  n : Nat
  c : Nat
theorem listZ_of {H : Type} {enc : TypeId × Value → H} {w : World} {base : Nat} {spare : Nat → Bool} {held : Bool} {fuel : Nat} {p : Option Addr} {len cap : Nat} {y : DataW H × List MemPlace}
    (h : DataW.trod enc Try.prog w base spare held fuel 22 [.slice p len cap] = some y) : len ≤ cap ∧ len ≤ 9223372036854775807 ∧ ∃ l, Rw 6 zcells w p len l := by
  rcases open_parts Try.underlying22 Try.underlying33 (m := 6) (by kernel_rfl) h with h0 | ⟨a, n, c, hcs, hl, hm, hp⟩
  · simp only [List.cons.injEq, and_true, Value.slice.injEq] at h0
    obtain ⟨rfl, rfl, rfl⟩ := h0
    exact ⟨Nat.le_refl _, Nat.zero_le _, [], rw_nil w⟩
  · simp only [List.cons.injEq, and_true, Value.slice.injEq] at hcs
    obtain ⟨rfl, rfl, rfl⟩ := hcs
    unfold maxLen at hm
    refine ⟨hl, by omega, ?_⟩
    obtain ⟨b, o, spot⟩ := a
    have hs : 0 < len → spot = none := by
      intro h0
      obtain ⟨part, n, hlen, hc, _⟩ := hp 0 h0
      match part, hlen with
      | [v0, v1, v2, v3, v4, v5], _ =>
        have k0 := hc 0 (by decide)
        simpa [Addr.add] using World.cell?_spot k0
    by_cases h0 : 0 < len
    case neg =>
      obtain rfl : len = 0 := by omega
      exact ⟨[], rw_zero w _⟩
    obtain rfl := hs h0
    have key : ∀ i, i < len → ∃ t : Zn, ∀ j, j < 6 → w.cell? ⟨b, o + i * 6 + j, none⟩ = (zcells t)[j]? := by
      intro i hi
      obtain ⟨part, n, hlen, hc, hf⟩ := hp i hi
      match part, hlen with
      | [v0, v1, v2, v3, v4, v5], _ =>
        obtain ⟨y0, f0⟩ := hf 0 _ rfl
        change DataW.trod enc Try.prog w base spare held n 3 (List.take (Try.prog.cellsOf 3) (List.drop 0 [v0, v1, v2, v3, v4, v5])) = some y0 at f0
        rw [show Try.prog.cellsOf 3 = 1 by kernel_rfl] at f0
        obtain ⟨m0, e0, _, _⟩ := DataW.trod_int Try.underlying3 f0
        obtain ⟨y1, f1⟩ := hf 1 _ rfl
        change DataW.trod enc Try.prog w base spare held n 3 (List.take (Try.prog.cellsOf 3) (List.drop 1 [v0, v1, v2, v3, v4, v5])) = some y1 at f1
        rw [show Try.prog.cellsOf 3 = 1 by kernel_rfl] at f1
        obtain ⟨m1, e1, _, _⟩ := DataW.trod_int Try.underlying3 f1
        obtain ⟨y2, f2⟩ := hf 2 _ rfl
        change DataW.trod enc Try.prog w base spare held n 3 (List.take (Try.prog.cellsOf 3) (List.drop 2 [v0, v1, v2, v3, v4, v5])) = some y2 at f2
        rw [show Try.prog.cellsOf 3 = 1 by kernel_rfl] at f2
        obtain ⟨m2, e2, _, _⟩ := DataW.trod_int Try.underlying3 f2
        obtain ⟨y3, f3⟩ := hf 3 _ rfl
        change DataW.trod enc Try.prog w base spare held n 3 (List.take (Try.prog.cellsOf 3) (List.drop 3 [v0, v1, v2, v3, v4, v5])) = some y3 at f3
        rw [show Try.prog.cellsOf 3 = 1 by kernel_rfl] at f3
        obtain ⟨m3, e3, _, _⟩ := DataW.trod_int Try.underlying3 f3
        obtain ⟨y4, f4⟩ := hf 4 _ rfl
        change DataW.trod enc Try.prog w base spare held n 4 (List.take (Try.prog.cellsOf 4) (List.drop 4 [v0, v1, v2, v3, v4, v5])) = some y4 at f4
        rw [show Try.prog.cellsOf 4 = 1 by kernel_rfl] at f4
        obtain ⟨m4, e4, _⟩ := DataW.trod_bool Try.underlying4 f4
        obtain ⟨y5, f5⟩ := hf 5 _ rfl
        change DataW.trod enc Try.prog w base spare held n 3 (List.take (Try.prog.cellsOf 3) (List.drop 5 [v0, v1, v2, v3, v4, v5])) = some y5 at f5
        rw [show Try.prog.cellsOf 3 = 1 by kernel_rfl] at f5
        obtain ⟨m5, e5, _, _⟩ := DataW.trod_int Try.underlying3 f5
        simp only [List.drop_zero, List.drop_succ_cons, List.take_succ_cons, List.take_zero, List.cons.injEq, and_true] at e0 e1 e2 e3 e4 e5
        subst e0 e1 e2 e3 e4 e5
        refine ⟨⟨m0, m1, m2, m3, m4, m5⟩, fun j hj => ?_⟩
        have := hc j hj
        rw [add_none, ← Nat.add_assoc] at this
        exact this
    obtain ⟨l, hll, hlk⟩ := list_of zn0 (fun i t => ∀ j, j < 6 → w.cell? ⟨b, o + i * 6 + j, none⟩ = (zcells t)[j]?) len key
    refine ⟨l, hll, fun _ => ⟨b, o, rfl, fun j x hx i hi => ?_⟩⟩
    have hj := (List.getElem?_eq_some_iff.1 hx).1
    have := hlk j (by omega) i hi
    rw [List.getD_eq_getElem?_getD, hx] at this
    exact this
def InZ (W : World) (v : Value) (x : Sl) : Prop := v = .slice x.p x.n x.c ∧ x.n ≤ 9223372036854775807 ∧ ∃ l, Rw 6 zcells W x.p x.n l
theorem inZ_of {H : Type} {enc : TypeId × Value → H} {W : World} {base : Nat} {v : Value} {d : DataW H} {ps : List MemPlace} (hv : Value.okWide Try.prog W .any base 22 v) (h : DataW.Trod enc Try.prog W 0 (fun _ => true) true 22 v d ps) :
    ∃ x, InZ W v x := by
  obtain ⟨a, len, cap, rfl⟩ := okWide_slice Try.underlying22 hv
  obtain ⟨fuel, hf⟩ := h
  obtain ⟨_, g2, l, hA⟩ := listZ_of hf
  exact ⟨⟨a, len, cap⟩, rfl, g2, l, hA⟩
theorem listP_of {H : Type} {enc : TypeId × Value → H} {w : World} {base : Nat} {spare : Nat → Bool} {held : Bool} {fuel : Nat} {p : Option Addr} {len cap : Nat} {y : DataW H × List MemPlace}
    (h : DataW.trod enc Try.prog w base spare held fuel 23 [.slice p len cap] = some y) : len ≤ cap ∧ len ≤ 9223372036854775807 ∧ ∃ l, Rw 3 pcells w p len l := by
  rcases open_parts Try.underlying23 Try.underlying36 (m := 3) (by kernel_rfl) h with h0 | ⟨a, n, c, hcs, hl, hm, hp⟩
  · simp only [List.cons.injEq, and_true, Value.slice.injEq] at h0
    obtain ⟨rfl, rfl, rfl⟩ := h0
    exact ⟨Nat.le_refl _, Nat.zero_le _, [], rw_nil w⟩
  · simp only [List.cons.injEq, and_true, Value.slice.injEq] at hcs
    obtain ⟨rfl, rfl, rfl⟩ := hcs
    unfold maxLen at hm
    refine ⟨hl, by omega, ?_⟩
    obtain ⟨b, o, spot⟩ := a
    have hs : 0 < len → spot = none := by
      intro h0
      obtain ⟨part, n, hlen, hc, _⟩ := hp 0 h0
      match part, hlen with
      | [v0, v1, v2], _ =>
        have k0 := hc 0 (by decide)
        simpa [Addr.add] using World.cell?_spot k0
    by_cases h0 : 0 < len
    case neg =>
      obtain rfl : len = 0 := by omega
      exact ⟨[], rw_zero w _⟩
    obtain rfl := hs h0
    have key : ∀ i, i < len → ∃ t : Pd, ∀ j, j < 3 → w.cell? ⟨b, o + i * 3 + j, none⟩ = (pcells t)[j]? := by
      intro i hi
      obtain ⟨part, n, hlen, hc, hf⟩ := hp i hi
      match part, hlen with
      | [v0, v1, v2], _ =>
        obtain ⟨y0, f0⟩ := hf 0 _ rfl
        change DataW.trod enc Try.prog w base spare held n 3 (List.take (Try.prog.cellsOf 3) (List.drop 0 [v0, v1, v2])) = some y0 at f0
        rw [show Try.prog.cellsOf 3 = 1 by kernel_rfl] at f0
        obtain ⟨m0, e0, _, _⟩ := DataW.trod_int Try.underlying3 f0
        obtain ⟨y1, f1⟩ := hf 1 _ rfl
        change DataW.trod enc Try.prog w base spare held n 3 (List.take (Try.prog.cellsOf 3) (List.drop 1 [v0, v1, v2])) = some y1 at f1
        rw [show Try.prog.cellsOf 3 = 1 by kernel_rfl] at f1
        obtain ⟨m1, e1, _, _⟩ := DataW.trod_int Try.underlying3 f1
        obtain ⟨y2, f2⟩ := hf 2 _ rfl
        change DataW.trod enc Try.prog w base spare held n 3 (List.take (Try.prog.cellsOf 3) (List.drop 2 [v0, v1, v2])) = some y2 at f2
        rw [show Try.prog.cellsOf 3 = 1 by kernel_rfl] at f2
        obtain ⟨m2, e2, _, _⟩ := DataW.trod_int Try.underlying3 f2
        simp only [List.drop_zero, List.drop_succ_cons, List.take_succ_cons, List.take_zero, List.cons.injEq, and_true] at e0 e1 e2
        subst e0 e1 e2
        refine ⟨⟨m0, m1, m2⟩, fun j hj => ?_⟩
        have := hc j hj
        rw [add_none, ← Nat.add_assoc] at this
        exact this
    obtain ⟨l, hll, hlk⟩ := list_of pd0 (fun i t => ∀ j, j < 3 → w.cell? ⟨b, o + i * 3 + j, none⟩ = (pcells t)[j]?) len key
    refine ⟨l, hll, fun _ => ⟨b, o, rfl, fun j x hx i hi => ?_⟩⟩
    have hj := (List.getElem?_eq_some_iff.1 hx).1
    have := hlk j (by omega) i hi
    rw [List.getD_eq_getElem?_getD, hx] at this
    exact this
def InP (W : World) (v : Value) (x : Sl) : Prop := v = .slice x.p x.n x.c ∧ x.n ≤ 9223372036854775807 ∧ ∃ l, Rw 3 pcells W x.p x.n l
theorem inP_of {H : Type} {enc : TypeId × Value → H} {W : World} {base : Nat} {v : Value} {d : DataW H} {ps : List MemPlace} (hv : Value.okWide Try.prog W .any base 23 v) (h : DataW.Trod enc Try.prog W 0 (fun _ => true) true 23 v d ps) :
    ∃ x, InP W v x := by
  obtain ⟨a, len, cap, rfl⟩ := okWide_slice Try.underlying23 hv
  obtain ⟨fuel, hf⟩ := h
  obtain ⟨_, g2, l, hA⟩ := listP_of hf
  exact ⟨⟨a, len, cap⟩, rfl, g2, l, hA⟩
end Ms
theorem own : ownKnob Try.prog.godebug = none := by kernel_rfl
theorem t_arg0_of {H : Type} {enc : TypeId × Value → H} {W : World} {base : Nat} {v : Value} {d : DataW H} {ps : List MemPlace} (hv : Value.okWide Try.prog W .any base 22 v) (h : DataW.Trod enc Try.prog W 0 (fun _ => true) true 22 v d ps) :
    ∃ x, Ms.InZ W v x := Ms.inZ_of hv h
theorem t_arg1_of {H : Type} {enc : TypeId × Value → H} {W : World} {base : Nat} {v : Value} {d : DataW H} {ps : List MemPlace} (hv : Value.okWide Try.prog W .any base 23 v) (h : DataW.Trod enc Try.prog W 0 (fun _ => true) true 23 v d ps) :
    ∃ x, Ms.InP W v x := Ms.inP_of hv h
theorem t_arg2_of {H : Type} {enc : TypeId × Value → H} {W : World} {base : Nat} {v : Value} {d : DataW H} {ps : List MemPlace} (hv : Value.okWide Try.prog W .any base 3 v) (h : DataW.Trod enc Try.prog W 0 (fun _ => true) true 3 v d ps) :
    ∃ x, InI .i64 v x := inI_of Try.underlying3 hv h
theorem k_arg0_of {H : Type} {enc : TypeId × Value → H} {W : World} {base : Nat} {v : Value} {d : DataW H} {ps : List MemPlace} (hv : Value.okWide Try.prog W .any base 22 v) (h : DataW.Trod enc Try.prog W 0 (fun _ => true) true 22 v d ps) :
    ∃ x, Ms.InZ W v x := Ms.inZ_of hv h
theorem tells_in (v0 : Value) (y : Ms.Sl) (v1 : Value) (z : Ms.Sl) (v2 : Value) (m : Int) (W : World) (w0 : Ms.InZ W v0 y) (w1 : Ms.InP W v1 z) (w2 : InI .i64 v2 m) :
    Calls Try.prog 3 #[v0, v1, v2] W fun e w' => e = .returned (.bool true) ∧ Below W.heap.size W w' := by
  obtain ⟨rfl, hb0, l, hl⟩ := w0
  obtain ⟨rfl, hb1, k, hk⟩ := w1
  obtain ⟨rfl, hm⟩ := w2
  have h2 := Se.i64_of hm
  by_cases hn : 60 < y.n ∨ 60 < z.n
  · exact Ms.tells_long Ms.mface y.p y.n y.c z.p z.n z.c m W hb0 hb1 hn
  · exact Ms.tells_yes Ms.mface y.p y.n y.c z.p z.n z.c m l k W (by omega) (by omega) hl hk h2.1 h2.2
theorem kept_in (v0 : Value) (y : Ms.Sl) (W : World) (w0 : Ms.InZ W v0 y) :
    Calls Try.prog 4 #[v0] W fun e w' => e = .returned (.bool true) ∧ Below W.heap.size W w' := by
  obtain ⟨rfl, hb0, l, hl⟩ := w0
  by_cases hn : 60 < y.n
  · exact Ms.kept_long Ms.mface y.p y.n y.c W hb0 hn
  · exact Ms.kept_yes Ms.mface y.p y.n y.c l W (by omega) hl
end Go.Proofs.Ytpceoklacpcfkaa
