/- SeriesSilence over arguments that came in. No condition but those written. -/
import Derived.Test.YthlpbkkglaaofaaSeL3
import Derived.Test.YthlpbkkglaaofaaSeL4
namespace Go.Proofs.Ythlpbkkglaaofaa
open Go.RowKit Go.ChangeShapes Go.WideShapes

theorem s_arg0_of {H : Type} {enc : TypeId × Value → H} {W : World} {base : Nat} {v : Value} {d : DataW H} {ps : List MemPlace} (hv : Value.okWide Try.prog W .any base 22 v) (h : DataW.Trod enc Try.prog W 0 (fun _ => true) true 22 v d ps) :
    ∃ x, Se.In2 .i64 v x := t_arg0_of hv h
theorem s_arg1_of {H : Type} {enc : TypeId × Value → H} {W : World} {base : Nat} {v : Value} {d : DataW H} {ps : List MemPlace} (hv : Value.okWide Try.prog W .any base 23 v) (h : DataW.Trod enc Try.prog W 0 (fun _ => true) true 23 v d ps) :
    ∃ x, Se.InR W v x := Se.inR_of hv h
theorem s_arg2_of {H : Type} {enc : TypeId × Value → H} {W : World} {base : Nat} {v : Value} {d : DataW H} {ps : List MemPlace} (hv : Value.okWide Try.prog W .any base 44 v) (h : DataW.Trod enc Try.prog W 0 (fun _ => true) true 44 v d ps) :
    ∃ x, Se.In2 .u32 v x := Se.in2_of Try.underlying44 Try.underlying43 (by kernel_rfl) (by kernel_rfl) hv h
theorem silence_in (v0 : Value) (x : Int × Int) (v1 : Value) (y : Bs) (v2 : Value) (z : Int × Int) (W : World) (w0 : Se.In2 .i64 v0 x) (w1 : Se.InR W v1 y) (w2 : Se.In2 .u32 v2 z) :
    Calls Try.prog 5 #[v0, v1, v2] W fun e w' => e = .returned (.bool true) ∧ Below W.heap.size W w' := by
  obtain ⟨rfl, ha, hb⟩ := w0
  obtain ⟨rfl, hnc, hbig, l, hA⟩ := w1
  obtain ⟨rfl, hz1, hz2⟩ := w2
  obtain ⟨z1, e1, _⟩ := Se.u32_of hz1
  obtain ⟨z2, e2, g2⟩ := Se.u32_of hz2
  rw [e1, e2]
  by_cases hM : Se.mayB x.1 x.2 = true
  · by_cases hn : 100 < y.n
    · exact Se.silence_long Se.face x.1 x.2 y.p y.n y.c z1 z2 W hM hn hbig
    · exact Se.silence_yes Se.face x.1 x.2 y.p y.n y.c l z1 z2 W hM (by omega) hnc hA g2
  · exact Se.silence_no Se.face x.1 x.2 y.p y.n y.c z1 z2 W (by simpa using hM)
end Go.Proofs.Ythlpbkkglaaofaa
