/- A frame that came in; both laws of layer 5 over arguments that came in. No condition but those written. -/
import Derived.Test.YtbnnijcjlafcpaaIn
import Derived.Test.YtbnnijcjlafcpaaFrL3
namespace Go.Proofs.Ytbnnijcjlafcpaa
open Go.RowKit Go.ChangeShapes Go.WideShapes

def InF (v : Value) (f : Fr.Frm) : Prop := v = Fr.val f ∧ f.bits < 18446744073709551616
theorem inF_of {H : Type} {enc : TypeId × Value → H} {W : World} {base : Nat} {v : Value} {d : DataW H} {ps : List MemPlace} (hv : Value.okWide Try.prog W .any base 24 v) (h : DataW.Trod enc Try.prog W 0 (fun _ => true) true 24 v d ps) :
    ∃ f, InF v f := by
  obtain ⟨cs, rfl, hl, hf⟩ := open_whole Try.underlying24 (m := 6) (by kernel_rfl) hv h
  match cs, hl with
  | [v0, v1, v2, v3, v4, v5], _ =>
    obtain ⟨n0, y0, f0⟩ := hf 0 _ rfl
    obtain ⟨n1, y1, f1⟩ := hf 1 _ rfl
    obtain ⟨n2, y2, f2⟩ := hf 2 _ rfl
    obtain ⟨n3, y3, f3⟩ := hf 3 _ rfl
    obtain ⟨n4, y4, f4⟩ := hf 4 _ rfl
    obtain ⟨n5, y5, f5⟩ := hf 5 _ rfl
    change DataW.trod enc Try.prog W 0 (fun _ => true) true n0 3 (List.take (Try.prog.cellsOf 3) (List.drop 0 [v0, v1, v2, v3, v4, v5])) = some y0 at f0
    change DataW.trod enc Try.prog W 0 (fun _ => true) true n1 3 (List.take (Try.prog.cellsOf 3) (List.drop 1 [v0, v1, v2, v3, v4, v5])) = some y1 at f1
    change DataW.trod enc Try.prog W 0 (fun _ => true) true n2 3 (List.take (Try.prog.cellsOf 3) (List.drop 2 [v0, v1, v2, v3, v4, v5])) = some y2 at f2
    change DataW.trod enc Try.prog W 0 (fun _ => true) true n3 4 (List.take (Try.prog.cellsOf 4) (List.drop 3 [v0, v1, v2, v3, v4, v5])) = some y3 at f3
    change DataW.trod enc Try.prog W 0 (fun _ => true) true n4 4 (List.take (Try.prog.cellsOf 4) (List.drop 4 [v0, v1, v2, v3, v4, v5])) = some y4 at f4
    change DataW.trod enc Try.prog W 0 (fun _ => true) true n5 22 (List.take (Try.prog.cellsOf 22) (List.drop 5 [v0, v1, v2, v3, v4, v5])) = some y5 at f5
    rw [show Try.prog.cellsOf 3 = 1 by kernel_rfl] at f0 f1 f2
    rw [show Try.prog.cellsOf 4 = 1 by kernel_rfl] at f3 f4
    rw [show Try.prog.cellsOf 22 = 1 by kernel_rfl] at f5
    obtain ⟨m0, e0, _, _⟩ := DataW.trod_int Try.underlying3 f0
    obtain ⟨m1, e1, _, _⟩ := DataW.trod_int Try.underlying3 f1
    obtain ⟨m2, e2, _, _⟩ := DataW.trod_int Try.underlying3 f2
    obtain ⟨m3, e3, _⟩ := DataW.trod_bool Try.underlying4 f3
    obtain ⟨m4, e4, _⟩ := DataW.trod_bool Try.underlying4 f4
    obtain ⟨m5, e5, _, w5⟩ := DataW.trod_int Try.underlying22 f5
    simp only [List.drop_zero, List.drop_succ_cons, List.take_succ_cons, List.take_zero, List.cons.injEq, and_true] at e0 e1 e2 e3 e4 e5
    subst e0 e1 e2 e3 e4 e5
    have hb := nat_u64 w5
    refine ⟨⟨m0, m1, m2, m3, m4, m5.toNat⟩, ?_, ?_⟩
    · simp only [Fr.val, Int.toNat_of_nonneg hb.1]
    · show m5.toNat < 18446744073709551616
      omega
theorem own : ownKnob Try.prog.godebug = none := by kernel_rfl
theorem t_arg0_of {H : Type} {enc : TypeId × Value → H} {W : World} {base : Nat} {v : Value} {d : DataW H} {ps : List MemPlace} (hv : Value.okWide Try.prog W .any base 24 v) (h : DataW.Trod enc Try.prog W 0 (fun _ => true) true 24 v d ps) :
    ∃ f, InF v f := inF_of hv h
theorem t_arg1_of {H : Type} {enc : TypeId × Value → H} {W : World} {base : Nat} {v : Value} {d : DataW H} {ps : List MemPlace} (hv : Value.okWide Try.prog W .any base 25 v) (h : DataW.Trod enc Try.prog W 0 (fun _ => true) true 25 v d ps) :
    ∃ x, InB W v x := inB_of hv h
theorem b_arg0_of {H : Type} {enc : TypeId × Value → H} {W : World} {base : Nat} {v : Value} {d : DataW H} {ps : List MemPlace} (hv : Value.okWide Try.prog W .any base 24 v) (h : DataW.Trod enc Try.prog W 0 (fun _ => true) true 24 v d ps) :
    ∃ f, InF v f := inF_of hv h
theorem b_arg1_of {H : Type} {enc : TypeId × Value → H} {W : World} {base : Nat} {v : Value} {d : DataW H} {ps : List MemPlace} (hv : Value.okWide Try.prog W .any base 5 v) (h : DataW.Trod enc Try.prog W 0 (fun _ => true) true 5 v d ps) :
    ∃ x, InI .u8 v x := inI_of Try.underlying5 hv h
theorem b_arg2_of {H : Type} {enc : TypeId × Value → H} {W : World} {base : Nat} {v : Value} {d : DataW H} {ps : List MemPlace} (hv : Value.okWide Try.prog W .any base 37 v) (h : DataW.Trod enc Try.prog W 0 (fun _ => true) true 37 v d ps) :
    ∃ x, InI .u16 v x := inI_of Try.underlying37 hv h
theorem tells_in (v0 : Value) (f : Fr.Frm) (v1 : Value) (x : Bs) (W : World) (w0 : InF v0 f) (w1 : InB W v1 x) :
    Calls Try.prog 3 #[v0, v1] W fun e w' => e = .returned (.bool true) ∧ Below W.heap.size W w' := by
  obtain ⟨rfl, hb⟩ := w0
  obtain ⟨rfl, h⟩ := w1
  exact Fr.tells_any f x.p x.n x.c W hb h
theorem burst_in (v0 : Value) (f : Fr.Frm) (v1 : Value) (x : Int) (v2 : Value) (y : Int) (W : World) (w0 : InF v0 f) (w1 : InI .u8 v1 x) (w2 : InI .u16 v2 y) :
    Calls Try.prog 4 #[v0, v1, v2] W fun e w' => e = .returned (.bool true) ∧ Below W.heap.size W w' := by
  obtain ⟨rfl, hb⟩ := w0
  obtain ⟨rfl, hx⟩ := w1
  obtain ⟨rfl, hy⟩ := w2
  exact Fr.burst_any f x y W hb hx hy
end Go.Proofs.Ytbnnijcjlafcpaa
