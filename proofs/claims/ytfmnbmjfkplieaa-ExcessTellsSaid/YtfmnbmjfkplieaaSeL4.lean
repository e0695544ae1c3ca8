/- The walk over the law of silence. Conditions: the contracts of package series; the list reads as readings; the numbers are uint32s. -/
import Derived.Test.YtfmnbmjfkplieaaSeL2
import Derived.Lib.QuietBelow
namespace Go.Proofs.Ytfmnbmjfkplieaa
open Go.RowKit

namespace Se
/-- A uint32. -/
def U32 (x : Nat) : Prop := x < 4294967296
theorem u32_lt {x : Nat} (h : U32 x) : (x : Int) < 4294967296 := by
  unfold U32 at h
  omega
theorem next_le {ga m : Int} {l : List Rd} (hr : ∀ x ∈ l, rightB x = true) (hg : 0 ≤ ga ∧ ga ≤ 1048575) : -1 ≤ next ga l m ∧ next ga l m ≤ 2097151 := by
  have hs := nextL_spec l m (fun x hx => (right_of (hr x hx)).2.2.1)
  have hL : -1 ≤ nextL l m ∧ nextL l m ≤ 1048575 := by
    rcases hs with ⟨h1, _⟩ | ⟨_, h2, ⟨y, hy, h3⟩, _⟩
    · omega
    · have := right_of (hr y hy)
      omega
  unfold next
  rcases hc : cnt ga l m with _ | y
  · simp only
    omega
  · have hy := right_of (hr y (cnt_some hc).1)
    simp only
    split <;> omega
theorem two_boxes (w : World) (c1 c2 : Array Value) (t1 t2 : TypeId) : Below w.heap.size w ((w.alloc (.cells c1 t1)).alloc (.cells c2 t2)) ∧ Lies ((w.alloc (.cells c1 t1)).alloc (.cells c2 t2)) w.heap.size t1 c1 ∧ Lies ((w.alloc (.cells c1 t1)).alloc (.cells c2 t2)) (w.heap.size + 1) t2 c2 :=
  ⟨(alloc_below w _).alloc (size_alloc _ _) _, (Lies.new w t1 c1).alloc _, by
    have := Lies.new (w.alloc (.cells c1 t1)) t2 c2
    rwa [show (w.alloc (.cells c1 t1)).heap.size = w.heap.size + 1 by simp] at this⟩
theorem any_next {S : List Rd} {k : Nat} {z : Rd} {a U : Int} {sb : Bool} (h : sb = true ↔ (U = a ∨ ∃ (j : Nat) (y : Rd), j < k ∧ S[j]? = some y ∧ y.ten = U)) (hz : S[k]? = some z) (s2 : Bool) (h2 : s2 = true ↔ (sb = true ∨ z.ten = U)) :
    s2 = true ↔ (U = a ∨ ∃ (j : Nat) (y : Rd), j < k + 1 ∧ S[j]? = some y ∧ y.ten = U) := by
  rw [h2, h]
  constructor
  · rintro ((h | ⟨j, y, h1, h2, h3⟩) | h)
    · exact .inl h
    · exact .inr ⟨j, y, by omega, h2, h3⟩
    · exact .inr ⟨k, z, by omega, hz, h⟩
  · rintro (h | ⟨j, y, h1, h2, h3⟩)
    · exact .inl (.inl h)
    · by_cases hj : j < k
      · exact .inl (.inr ⟨j, y, hj, h2, h3⟩)
      · obtain rfl : j = k := by omega
        rw [hz] at h2
        cases h2
        exact .inr h3
end Se
end Go.Proofs.Ytfmnbmjfkplieaa
