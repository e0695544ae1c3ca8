/- SeriesOrder over arguments that came in. No condition but those written. -/
import Derived.Test.YthlpbkkglaaofaaSeL3
import Derived.Test.YthlpbkkglaaofaaSeL5
namespace Go.Proofs.Ythlpbkkglaaofaa
open Go.RowKit Go.ChangeShapes Go.WideShapes

theorem order_in (v0 : Value) (x : Int × Int) (v1 : Value) (y : Bs) (v2 : Value) (m : Int) (W : World) (w0 : Se.In2 .i64 v0 x) (w1 : Se.InR W v1 y) (w2 : InI .i64 v2 m) :
    Calls Try.prog 4 #[v0, v1, v2] W fun e w' => e = .returned (.bool true) ∧ Below W.heap.size W w' := by
  obtain ⟨rfl, ha, hb⟩ := w0
  obtain ⟨rfl, hnc, hbig, l, hA⟩ := w1
  obtain ⟨rfl, hm⟩ := w2
  have hm' := Se.i64_of hm
  by_cases hM : Se.mayB x.1 x.2 = true
  · by_cases hn : 100 < y.n
    · exact Se.order_long Se.face x.1 x.2 y.p y.n y.c m W hM hn hbig
    · exact Se.order_yes Se.face x.1 x.2 y.p y.n y.c m l W hM (by omega) hnc hA hm'.1 hm'.2
  · exact Se.order_no Se.face x.1 x.2 y.p y.n y.c m W (by simpa using hM)
end Go.Proofs.Ythlpbkkglaaofaa
