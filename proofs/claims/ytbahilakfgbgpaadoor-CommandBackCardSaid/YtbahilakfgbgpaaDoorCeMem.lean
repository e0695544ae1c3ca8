/- Certificates in memory. No condition but those written. -/
import Derived.Test.YtbahilakfgbgpaaDoorCeNum
import Derived.Test.YtbahilakfgbgpaaDoorRw
import Derived.Test.YtbahilakfgbgpaaDoorMem
import Derived.Lib.Hide
namespace Go.Proofs.YtbahilakfgbgpaaDoor
open Go.RowKit

namespace Ce
def cval (c : Ct) : Value := .agg #[.int .i64 c.id, .int .i64 c.order, .int .i64 c.lot, .int .i64 c.product, .int .i64 c.units, .int .i64 c.minute, .int .i64 c.exposure, .int .i64 c.allowance]
def ccells (c : Ct) : List Value := [.int .i64 c.id, .int .i64 c.order, .int .i64 c.lot, .int .i64 c.product, .int .i64 c.units, .int .i64 c.minute, .int .i64 c.exposure, .int .i64 c.allowance]
theorem ccells_len (c : Ct) : (ccells c).length = 8 := rfl
theorem ccells_one (c : Ct) : ∀ u ∈ ccells c, u.oneCell' = true := fun u hu => by
  simp only [ccells, List.mem_cons, List.not_mem_nil, or_false] at hu
  rcases hu with rfl | rfl | rfl | rfl | rfl | rfl | rfl | rfl <;> rfl
/-- The certificate at a place: where its cells lie. -/
theorem ct_at {w : World} {p : Option Addr} {n : Nat} {l : List Ct} (h : Rw 8 ccells w p n l) {k : Nat} {x : Ct} (hx : l[k]? = some x) :
    ∃ b o, p = some ⟨b, o, none⟩ ∧ ∀ i, i < 8 → w.cell? ⟨b, o + k * 8 + i, none⟩ = (ccells x)[i]? := by
  have hk := (List.getElem?_eq_some_iff.1 hx).1
  obtain ⟨b, o, e, hc⟩ := h.2 (by rw [← h.1]; omega)
  exact ⟨b, o, e, fun i hi => hc k x hx i hi⟩
theorem own_ct {w : World} {B n c : Nat} {p : Option Addr} {e : TypeId} {l : List Ct} (h : w.ownsRow B e 8 (.slice p n c) n (l.flatMap ccells)) (hn : l.length = n) : Rw 8 ccells w p n l := by
  subst hn
  obtain ⟨q, c', e1, _, h2⟩ := rw_own ccells_len h
  injection e1 with e1 _ _
  rw [e1]
  exact h2
end Ce
end Go.Proofs.YtbahilakfgbgpaaDoor
