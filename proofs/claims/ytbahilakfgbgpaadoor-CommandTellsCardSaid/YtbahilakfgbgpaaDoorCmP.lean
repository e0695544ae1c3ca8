/- Layer 18's laws over arguments that came in. Conditions: the contracts of package command, and what comes in. -/
import Derived.Test.YtbahilakfgbgpaaDoorIn2
import Derived.Test.YtbahilakfgbgpaaDoorIn
import Derived.Test.YtbahilakfgbgpaaDoorOpen
import Derived.Test.YtbahilakfgbgpaaDoorCmL2
import Derived.Test.YtbahilakfgbgpaaDoorCmL3
namespace Go.Proofs.YtbahilakfgbgpaaDoor
open Go.RowKit Go.ChangeShapes Go.WideShapes

namespace Cm
theorem i64_in {n : Int} (h : (Lit.int .i64 n).wf = true) : I64 n := Se.i64_of h
/-- A command that came in. -/
def InM (W : World) (v : Value) (y : Cv) : Prop := v = cval y ∧ Bt W y ∧ y.n ≤ 9223372036854775807 ∧ Wf y.x ∧ I64 y.x.kind
set_option maxRecDepth 100000 in
theorem inM_of {H : Type} {enc : TypeId × Value → H} {W : World} {base : Nat} {v : Value} {d : DataW H} {ps : List MemPlace} (hv : Value.okWide Tryd.prog W .any base 25 v) (h : DataW.Trod enc Tryd.prog W 0 (fun _ => true) true 25 v d ps) :
    ∃ x, InM W v x := by
  obtain ⟨cs, rfl, hl, hf⟩ := open_whole Tryd.underlying25 (m := 7) (by kernel_rfl) hv h
  match cs, hl with
  | [v0, v1, v2, v3, v4, v5, v6], _ =>
    obtain ⟨n0, y0, f0⟩ := hf 0 _ rfl
    change DataW.trod enc Tryd.prog W 0 (fun _ => true) true n0 22 (List.take (Tryd.prog.cellsOf 22) (List.drop 0 [v0, v1, v2, v3, v4, v5, v6])) = some y0 at f0
    rw [show Tryd.prog.cellsOf 22 = 1 by kernel_rfl] at f0
    obtain ⟨m0, e0, _, g0⟩ := DataW.trod_int Tryd.underlying22 f0
    obtain ⟨n1, y1, f1⟩ := hf 1 _ rfl
    change DataW.trod enc Tryd.prog W 0 (fun _ => true) true n1 3 (List.take (Tryd.prog.cellsOf 3) (List.drop 1 [v0, v1, v2, v3, v4, v5, v6])) = some y1 at f1
    rw [show Tryd.prog.cellsOf 3 = 1 by kernel_rfl] at f1
    obtain ⟨m1, e1, _, g1⟩ := DataW.trod_int Tryd.underlying3 f1
    obtain ⟨n2, y2, f2⟩ := hf 2 _ rfl
    change DataW.trod enc Tryd.prog W 0 (fun _ => true) true n2 3 (List.take (Tryd.prog.cellsOf 3) (List.drop 2 [v0, v1, v2, v3, v4, v5, v6])) = some y2 at f2
    rw [show Tryd.prog.cellsOf 3 = 1 by kernel_rfl] at f2
    obtain ⟨m2, e2, _, g2⟩ := DataW.trod_int Tryd.underlying3 f2
    obtain ⟨n3, y3, f3⟩ := hf 3 _ rfl
    change DataW.trod enc Tryd.prog W 0 (fun _ => true) true n3 3 (List.take (Tryd.prog.cellsOf 3) (List.drop 3 [v0, v1, v2, v3, v4, v5, v6])) = some y3 at f3
    rw [show Tryd.prog.cellsOf 3 = 1 by kernel_rfl] at f3
    obtain ⟨m3, e3, _, g3⟩ := DataW.trod_int Tryd.underlying3 f3
    obtain ⟨n4, y4, f4⟩ := hf 4 _ rfl
    change DataW.trod enc Tryd.prog W 0 (fun _ => true) true n4 3 (List.take (Tryd.prog.cellsOf 3) (List.drop 4 [v0, v1, v2, v3, v4, v5, v6])) = some y4 at f4
    rw [show Tryd.prog.cellsOf 3 = 1 by kernel_rfl] at f4
    obtain ⟨m4, e4, _, g4⟩ := DataW.trod_int Tryd.underlying3 f4
    obtain ⟨n5, y5, f5⟩ := hf 5 _ rfl
    change DataW.trod enc Tryd.prog W 0 (fun _ => true) true n5 3 (List.take (Tryd.prog.cellsOf 3) (List.drop 5 [v0, v1, v2, v3, v4, v5, v6])) = some y5 at f5
    rw [show Tryd.prog.cellsOf 3 = 1 by kernel_rfl] at f5
    obtain ⟨m5, e5, _, g5⟩ := DataW.trod_int Tryd.underlying3 f5
    obtain ⟨n6, y6, f6⟩ := hf 6 _ rfl
    change DataW.trod enc Tryd.prog W 0 (fun _ => true) true n6 23 (List.take (Tryd.prog.cellsOf 23) (List.drop 6 [v0, v1, v2, v3, v4, v5, v6])) = some y6 at f6
    rw [show Tryd.prog.cellsOf 23 = 1 by kernel_rfl] at f6
    obtain ⟨p6, n6, c6, l6, e6, hnc, hbig, hA⟩ := run_of f6
    simp only [List.drop_zero, List.drop_succ_cons, List.take_succ_cons, List.take_zero, List.cons.injEq, and_true] at e0 e1 e2 e3 e4 e5 e6
    subst e0 e1 e2 e3 e4 e5 e6
    exact ⟨⟨⟨m0, m1, m2, m3, m4, m5, l6⟩, p6, n6, c6⟩, rfl, ⟨hA, hnc⟩, hbig, wf_lit (i64_in g1) (i64_in g2) (i64_in g3) (i64_in g4) (i64_in g5) hA.2.1, i64_in g0⟩
theorem tells_all (I : Face) (v0 : Value) (x0 : Cv) (v1 : Value) (x1 : Cv) (v2 : Value) (x2 : Bs) (W : World) (h0 : InM W v0 x0) (h1 : InM W v1 x1) (h2 : InB W v2 x2) (hR : I.R W) :
    Calls Tryd.prog 3 #[v0, v1, v2] W fun e w' => e = .returned (.bool true) ∧ Below W.heap.size W w' := by
  obtain ⟨rfl, a1, a2, a3, a4⟩ := h0
  obtain ⟨rfl, b1, b2, b3, b4⟩ := h1
  obtain ⟨rfl, hnc, hb, l, hA⟩ := h2
  by_cases hn : 300 < x2.n ∨ 300 < x0.n ∨ 300 < x1.n
  · exact mtells_long I x0 x1 _ _ _ W hR hn hb a2 b2
  · exact mtells_short I x0 x1 _ _ _ l W hR (by omega) (by omega) (by omega) hnc hA a1 b1 a3 a4
theorem back_all (I : Face) (v0 : Value) (x0 : Cv) (v1 : Value) (x1 : Bs) (v2 : Value) (x2 : Int) (W : World) (h0 : InM W v0 x0) (h1 : InB W v1 x1) (h2 : InI .u8 v2 x2) (hR : I.R W) :
    Calls Tryd.prog 4 #[v0, v1, v2] W fun e w' => e = .returned (.bool true) ∧ Below W.heap.size W w' := by
  obtain ⟨rfl, a1, a2, a3, a4⟩ := h0
  obtain ⟨rfl, hnc, hb, l, hA⟩ := h1
  obtain ⟨rfl, hw⟩ := h2
  have hx := nat_byte hw
  obtain ⟨a, rfl⟩ : ∃ a : Nat, x2 = a := ⟨x2.toNat, by omega⟩
  by_cases hn : 300 < x1.n ∨ 300 < x0.n
  · exact mback_long I x0 _ _ _ a W hR hn hb a2
  · exact mback_short I x0 _ _ _ a l W hR (by omega) (by omega) hnc hA a1 a3 a4 (by omega)
end Cm
theorem mt_arg0_of {H : Type} {enc : TypeId × Value → H} {W : World} {base : Nat} {v : Value} {d : DataW H} {ps : List MemPlace} (hv : Value.okWide Tryd.prog W .any base 25 v) (h : DataW.Trod enc Tryd.prog W 0 (fun _ => true) true 25 v d ps) : ∃ x, Cm.InM W v x := Cm.inM_of hv h
theorem mt_arg1_of {H : Type} {enc : TypeId × Value → H} {W : World} {base : Nat} {v : Value} {d : DataW H} {ps : List MemPlace} (hv : Value.okWide Tryd.prog W .any base 25 v) (h : DataW.Trod enc Tryd.prog W 0 (fun _ => true) true 25 v d ps) : ∃ x, Cm.InM W v x := Cm.inM_of hv h
theorem mt_arg2_of {H : Type} {enc : TypeId × Value → H} {W : World} {base : Nat} {v : Value} {d : DataW H} {ps : List MemPlace} (hv : Value.okWide Tryd.prog W .any base 23 v) (h : DataW.Trod enc Tryd.prog W 0 (fun _ => true) true 23 v d ps) : ∃ x, InB W v x := inB_of hv h
theorem mb_arg0_of {H : Type} {enc : TypeId × Value → H} {W : World} {base : Nat} {v : Value} {d : DataW H} {ps : List MemPlace} (hv : Value.okWide Tryd.prog W .any base 25 v) (h : DataW.Trod enc Tryd.prog W 0 (fun _ => true) true 25 v d ps) : ∃ x, Cm.InM W v x := Cm.inM_of hv h
theorem mb_arg1_of {H : Type} {enc : TypeId × Value → H} {W : World} {base : Nat} {v : Value} {d : DataW H} {ps : List MemPlace} (hv : Value.okWide Tryd.prog W .any base 23 v) (h : DataW.Trod enc Tryd.prog W 0 (fun _ => true) true 23 v d ps) : ∃ x, InB W v x := inB_of hv h
theorem mb_arg2_of {H : Type} {enc : TypeId × Value → H} {W : World} {base : Nat} {v : Value} {d : DataW H} {ps : List MemPlace} (hv : Value.okWide Tryd.prog W .any base 5 v) (h : DataW.Trod enc Tryd.prog W 0 (fun _ => true) true 5 v d ps) : ∃ x, InI .u8 v x := inI_of Tryd.underlying5 hv h
end Go.Proofs.YtbahilakfgbgpaaDoor
