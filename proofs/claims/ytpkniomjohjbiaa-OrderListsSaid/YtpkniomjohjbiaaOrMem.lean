/- Orders in memory. No condition but those written. -/
import Derived.Test.YtpkniomjohjbiaaOrNum
import Derived.Test.YtpkniomjohjbiaaRw
import Derived.Test.YtpkniomjohjbiaaMem
import Derived.Lib.Hide
namespace Go.Proofs.Ytpkniomjohjbiaa
open Go.RowKit

namespace Or
def oval (x : Od) : Value := .agg #[.int .i64 x.id, .int .i64 x.product, .int .i64 x.units, .int .i64 x.state]
def ocells (x : Od) : List Value := [.int .i64 x.id, .int .i64 x.product, .int .i64 x.units, .int .i64 x.state]
theorem ocells_len (x : Od) : (ocells x).length = 4 := rfl
theorem ocells_one (x : Od) : ∀ u ∈ ocells x, u.oneCell' = true := fun u hu => by
  simp only [ocells, List.mem_cons, List.not_mem_nil, or_false] at hu
  rcases hu with rfl | rfl | rfl | rfl <;> rfl
theorem infoO : (Try.prog.info? 40).map (fun i => (i.zero, i.size, i.bytes)) = some (some (.agg #[.int .i64 0, .int .i64 0, .int .i64 0, .int .i64 0]), 4, 32) := by kernel_rfl
theorem od_ext {a b c d a2 b2 c2 d2 : Int} (h : a = a2 ∧ b = b2 ∧ c = c2 ∧ d = d2) : (⟨a, b, c, d⟩ : Od) = ⟨a2, b2, c2, d2⟩ := by
  obtain ⟨rfl, rfl, rfl, rfl⟩ := h
  rfl
/-- The order at a place: where its cells lie. -/
theorem od_at {w : World} {p : Option Addr} {n : Nat} {l : List Od} (h : Rw 4 ocells w p n l) {k : Nat} {x : Od} (hx : l[k]? = some x) :
    ∃ b o, p = some ⟨b, o, none⟩ ∧ w.cell? ⟨b, o + k * 4, none⟩ = some (.int .i64 x.id) ∧ w.cell? ⟨b, o + k * 4 + 1, none⟩ = some (.int .i64 x.product) ∧ w.cell? ⟨b, o + k * 4 + 2, none⟩ = some (.int .i64 x.units) ∧ w.cell? ⟨b, o + k * 4 + 3, none⟩ = some (.int .i64 x.state) := by
  have hk := (List.getElem?_eq_some_iff.1 hx).1
  obtain ⟨b, o, e, hc⟩ := h.2 (by rw [← h.1]; omega)
  exact ⟨b, o, e, hc k x hx 0 (by decide), hc k x hx 1 (by decide), hc k x hx 2 (by decide), hc k x hx 3 (by decide)⟩
/-- A row that a call owns reads as orders. -/
theorem own_od {w : World} {B n c : Nat} {p : Option Addr} {e : TypeId} {l : List Od} (h : w.ownsRow B e 4 (.slice p n c) n (l.flatMap ocells)) (hn : l.length = n) : Rw 4 ocells w p n l := by
  subst hn
  obtain ⟨q, c', e1, _, h2⟩ := rw_own ocells_len h
  injection e1 with e1 _ _
  rw [e1]
  exact h2
end Or
end Go.Proofs.Ytpkniomjohjbiaa
