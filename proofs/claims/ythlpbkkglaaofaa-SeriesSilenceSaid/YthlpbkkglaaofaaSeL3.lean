/- SeriesTells over arguments that came in. No condition but those written. -/
import Derived.Test.YthlpbkkglaaofaaSeArg
import Derived.Test.YthlpbkkglaaofaaSeL2
import Derived.Test.YthlpbkkglaaofaaSeP8
namespace Go.Proofs.Ythlpbkkglaaofaa
open Go.RowKit Go.ChangeShapes Go.WideShapes

theorem own : ownKnob Try.prog.godebug = none := by kernel_rfl
theorem t_arg0_of {H : Type} {enc : TypeId × Value → H} {W : World} {base : Nat} {v : Value} {d : DataW H} {ps : List MemPlace} (hv : Value.okWide Try.prog W .any base 22 v) (h : DataW.Trod enc Try.prog W 0 (fun _ => true) true 22 v d ps) :
    ∃ x, Se.In2 .i64 v x := Se.in2_of Try.underlying22 Try.underlying3 (by kernel_rfl) (by kernel_rfl) hv h
theorem t_arg1_of {H : Type} {enc : TypeId × Value → H} {W : World} {base : Nat} {v : Value} {d : DataW H} {ps : List MemPlace} (hv : Value.okWide Try.prog W .any base 23 v) (h : DataW.Trod enc Try.prog W 0 (fun _ => true) true 23 v d ps) :
    ∃ x, Se.InR W v x := Se.inR_of hv h
theorem t_arg2_of {H : Type} {enc : TypeId × Value → H} {W : World} {base : Nat} {v : Value} {d : DataW H} {ps : List MemPlace} (hv : Value.okWide Try.prog W .any base 3 v) (h : DataW.Trod enc Try.prog W 0 (fun _ => true) true 3 v d ps) :
    ∃ x, InI .i64 v x := inI_of Try.underlying3 hv h
theorem tells_in (v0 : Value) (x : Int × Int) (v1 : Value) (y : Bs) (v2 : Value) (m : Int) (W : World) (w0 : Se.In2 .i64 v0 x) (w1 : Se.InR W v1 y) (w2 : InI .i64 v2 m) :
    Calls Try.prog 3 #[v0, v1, v2] W fun e w' => e = .returned (.bool true) ∧ Below W.heap.size W w' := by
  obtain ⟨rfl, ha, hb⟩ := w0
  obtain ⟨rfl, hnc, hbig, l, hA⟩ := w1
  obtain ⟨rfl, hm⟩ := w2
  have hm' := Se.i64_of hm
  by_cases hn : 100 < y.n
  · exact Se.tells_long Se.face x.1 x.2 y.p y.n y.c m W hn hbig
  · by_cases hM : Se.mayB x.1 x.2 = true
    · exact Se.tells_yes Se.face x.1 x.2 y.p y.n y.c m l W (by omega) hM hnc hA hm'.1 hm'.2
    · exact Se.tells_no Se.face x.1 x.2 y.p y.n y.c m W (by omega) (by simpa using hM)
end Go.Proofs.Ythlpbkkglaaofaa
