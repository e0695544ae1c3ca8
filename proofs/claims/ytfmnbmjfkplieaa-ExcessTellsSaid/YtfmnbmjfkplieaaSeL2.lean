/- The walk over the law that holds package series against the document's answer. Conditions: the contracts of package series; the list reads as readings. -/
import Derived.Test.YtfmnbmjfkplieaaSeL1
namespace Go.Proofs.Ytfmnbmjfkplieaa
open Go.RowKit

namespace Se
theorem right7 : rightB ⟨7, 65535, 1099511627776⟩ = true := by decide
/-- A reading that is as great as can be, at its place, is the air. -/
theorem air7 {wo ga : Int} (hg : 0 ≤ ga) {S : List Rd} (hs : Sorted S) (hr : ∀ x ∈ S, rightB x = true) : air wo ga (sortL (putR S ⟨7, 65535, 1099511627776⟩).2.2) 7 = 1099511627776 := by
  have ha := sorted_apart hs
  rw [putR_yes _ right7]
  have hA := put_apart ha ⟨7, 65535, 1099511627776⟩
  have hR := put_right hr right7
  rw [like_air hA (like_sorted _)]
  generalize hL : (put S ⟨7, 65535, 1099511627776⟩).2 = L at *
  have hm : (⟨7, 65535, 1099511627776⟩ : Rd) ∈ L := by
    rw [← hL, put_mem ha]
    by_cases hex : ∃ y ∈ S, one y ⟨7, 65535, 1099511627776⟩
    · obtain ⟨y, hy, hyr⟩ := hex
      refine .inr (.inl ⟨y, hy, hyr, ?_⟩)
      have := right_of (hr y hy)
      show (⟨7, 65535, 1099511627776⟩ : Rd) = ⟨7, 65535, max y.ten 1099511627776⟩
      rw [show max y.ten 1099511627776 = 1099511627776 by omega]
    · exact .inr (.inr ⟨fun y hy hyr => hex ⟨y, hy, hyr⟩, rfl⟩)
  have hl : lastL L 7 = some ⟨7, 65535, 1099511627776⟩ := by
    rcases lastL_spec L 7 with ⟨_, h2⟩ | ⟨y, h1, h2, h3, h4⟩
    · have := h2 _ hm
      simp only at this
      omega
    · rw [h1]
      congr 1
      have hy := right_of (hR y h2)
      have := h4 _ hm (by simp)
      refine apart_one hA h2 hm ?_
      unfold lt at this
      unfold one
      simp only at this ⊢
      omega
  unfold air cnt
  rw [hl]
  simp only [cntOf]
  rw [if_neg (by omega)]
theorem puts_apart (l : List Rd) : Apart (puts l) := (puts_spec l).1
theorem puts_next {l : List Rd} {i : Nat} {x : Rd} (hx : l[i]? = some x) : puts (l.take (i + 1)) = (putR (puts (l.take i)) x).2.2 := by
  rw [List.take_add_one, hx, Option.toList_some, puts_snoc]
theorem putR_like {S L : List Rd} (hs : Apart S) (hl : Apart L) (h : Like S L) (r : Rd) : (putR S r).1 = (putR L r).1 ∧ (putR S r).2.1 = (putR L r).2.1 ∧ Like (putR S r).2.2 (putR L r).2.2 ∧ Apart (putR S r).2.2 ∧ Apart (putR L r).2.2 := by
  unfold putR
  split
  · exact ⟨like_fst hs hl h r, rfl, like_put hs hl h r, put_apart hs r, put_apart hl r⟩
  · exact ⟨rfl, rfl, h, hs, hl⟩
theorem sort_next {l : List Rd} {i : Nat} {x : Rd} (hx : l[i]? = some x) : (putR (sortL (puts (l.take i))) x).1 = (putR (puts (l.take i)) x).1 ∧ (putR (sortL (puts (l.take i))) x).2.1 = (putR (puts (l.take i)) x).2.1 ∧
    sortL (putR (sortL (puts (l.take i))) x).2.2 = sortL (puts (l.take (i + 1))) := by
  obtain ⟨h1, h2, h3, h4, h5⟩ := putR_like (sorted_apart (sorted_sort (puts_apart (l.take i)))) (puts_apart _) (like_sorted _) x
  exact ⟨h1, h2, by rw [puts_next hx]; exact like_sort h4 h5 h3⟩
theorem sorted_puts (l : List Rd) : Sorted (sortL (puts l)) := sorted_sort (puts_apart l)
theorem sright (l : List Rd) : ∀ x ∈ sortL (puts l), rightB x = true := fun x hx => puts_right l x ((mem_sort _ x).1 hx)
theorem slen (l : List Rd) : (sortL (puts l)).length ≤ l.length := by
  rw [len_sort]
  exact puts_len l
theorem rser_new (w : World) (a b : Int) : RSer (w.alloc (.cells #[.int .i64 a, .int .i64 b, .slice none 0 0] 33)) w.heap.size w.heap.size (.slice none 0 0) a b [] :=
  ⟨Nat.le_refl _, Lies.new w 33 _, World.ownsRow_nil _ _ _ _⟩
/-- Two objects, side by side: the one that is written first. -/
theorem side1 {w w' : World} {g : Nat} {F F' : Nat → Prop} {v : Value} {wo ga : Int} {L : List Rd} {B2 : Nat} (hm : RSer w B2 g v wo ga L) (hd : ∀ k, F k → ¬ Feet g v k) (ht : Turn F w w') (hF : ∀ k, F' k → F k ∨ w.heap.size ≤ k) :
    RSer w' B2 g v wo ga L ∧ ∀ k, F' k → ¬ Feet g v k :=
  ⟨hm.turn ht (fun k hk hf => hd k hf hk), fun k hk hf => by
    rcases hF k hk with h | h
    · exact hd k h hf
    · have := (hm.foot hf).2
      omega⟩
theorem side2 (I : Face) {w w' : World} {B h g : Nat} {F : Nat → Prop} {v : Value} {wo ga : Int} {S L' : List Rd} {B2 : Nat} (hp : I.PS w B h F wo ga S) (hd : ∀ k, F k → ¬ Feet g v k) (hm : RPut w B2 g v wo ga L' w') :
    ∃ v', RSer w' B2 g v' wo ga L' ∧ I.PS w' B h F wo ga S ∧ (∀ k, F k → ¬ Feet g v' k) ∧ Turn (Feet g v) w w' := by
  obtain ⟨v', hr, ht, hv⟩ := hm
  refine ⟨v', hr, I.turn hp ht hd, fun k hk hf => ?_, ht⟩
  rcases hf with rfl | hf
  · exact hd k hk (.inl rfl)
  · rcases hv k hf with h | h
    · exact hd k hk (.inr h)
    · have := (I.foot hp hk).2
      omega
end Se
end Go.Proofs.Ytfmnbmjfkplieaa
