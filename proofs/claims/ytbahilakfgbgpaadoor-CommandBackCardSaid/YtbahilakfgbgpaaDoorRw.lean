/- Slices of structs: their cells as a list, rows that a call owns. No condition but those written. -/
import Derived.Test.YtbahilakfgbgpaaDoorMem
namespace Go.Proofs.YtbahilakfgbgpaaDoor
open Go.RowKit

section
variable {α : Type} {k : Nat} {enc : α → List Value}
theorem flat_len (hk : ∀ x, (enc x).length = k) (l : List α) : (l.flatMap enc).length = l.length * k := by
  induction l with
  | nil => simp
  | cons x l ih => rw [List.flatMap_cons, List.length_append, ih, hk, List.length_cons, Nat.add_mul, Nat.one_mul, Nat.add_comm]
theorem flat_at (hk : ∀ x, (enc x).length = k) : ∀ (l : List α) (j i : Nat) (x : α), l[j]? = some x → i < k → (l.flatMap enc)[j * k + i]? = (enc x)[i]? := by
  intro l
  induction l with
  | nil =>
    intro j i x h
    simp at h
  | cons y l ih =>
    intro j i x h hi
    cases j with
    | zero =>
      simp only [List.getElem?_cons_zero, Option.some.injEq] at h
      subst h
      rw [List.flatMap_cons, Nat.zero_mul, Nat.zero_add, List.getElem?_append_left (by rw [hk]; exact hi)]
    | succ j =>
      rw [List.getElem?_cons_succ] at h
      rw [List.flatMap_cons, List.getElem?_append_right (by rw [hk, Nat.add_mul]; omega), hk, ← ih j i x h hi]
      congr 1
      rw [Nat.add_mul]
      omega
theorem flat_set (hk : ∀ x, (enc x).length = k) : ∀ (l : List α) (j i : Nat) (x x' : α) (u : Value), l[j]? = some x → i < k → enc x' = (enc x).set i u → (l.set j x').flatMap enc = (l.flatMap enc).set (j * k + i) u := by
  intro l
  induction l with
  | nil =>
    intro j i x x' u h
    simp at h
  | cons y l ih =>
    intro j i x x' u h hi he
    cases j with
    | zero =>
      simp only [List.getElem?_cons_zero, Option.some.injEq] at h
      subst h
      rw [List.set_cons_zero, List.flatMap_cons, List.flatMap_cons, he, Nat.zero_mul, Nat.zero_add, List.set_append_left _ _ (by rw [hk]; exact hi)]
    | succ j =>
      rw [List.getElem?_cons_succ] at h
      rw [List.set_cons_succ, List.flatMap_cons, List.flatMap_cons, ih j i x x' u h hi he, List.set_append_right _ _ (by rw [hk, Nat.add_mul]; omega), hk]
      congr 2
      rw [Nat.add_mul]
      omega
/-- A slice of structs that reads as a list, nil let in. -/
def Rw (k : Nat) (enc : α → List Value) (w : World) (p : Option Addr) (n : Nat) (l : List α) : Prop :=
  l.length = n ∧ (0 < n → ∃ b o, p = some ⟨b, o, none⟩ ∧ ∀ j x, l[j]? = some x → ∀ i, i < k → w.cell? ⟨b, o + j * k + i, none⟩ = (enc x)[i]?)
theorem rw_nil (w : World) : Rw k enc w none 0 [] := ⟨rfl, fun h => absurd h (by decide)⟩
theorem rw_zero (w : World) (p : Option Addr) : Rw k enc w p 0 [] := ⟨rfl, fun h => absurd h (by decide)⟩
/-- A row that the call owns reads as its list. -/
theorem rw_own (hk : ∀ x, (enc x).length = k) {w : World} {B : Nat} {e : TypeId} {v : Value} {l : List α} (h : w.ownsRow B e k v l.length (l.flatMap enc)) :
    ∃ q c, v = .slice q l.length c ∧ l.length ≤ c ∧ Rw k enc w q l.length l := by
  have h' := h
  rcases h.2 with ⟨rfl, h0⟩ | ⟨g, cap, cur, rfl, _, _, hnc, _⟩
  · exact ⟨none, 0, by rw [h0], by omega, rfl, fun h1 => by omega⟩
  · refine ⟨_, cap, rfl, hnc, rfl, fun _ => ⟨g, 0, rfl, fun j x hx i hi => ?_⟩⟩
    have hj : j < l.length := (List.getElem?_eq_some_iff.1 hx).1
    rw [Nat.zero_add, h'.cellAt (j * k + i) (by
      have : (j + 1) * k ≤ l.length * k := Nat.mul_le_mul_right k hj
      rw [Nat.add_mul] at this
      omega), flat_at hk l j i x hx hi]
theorem Rw.like {w w' : World} {p : Option Addr} {n : Nat} {l : List α} (h : Rw k enc w p n l) (hk : ∀ x, (enc x).length = k) (he : ∀ b i, b < w.heap.size → (∀ a, p = some a → a.block = b) → w'.cell? ⟨b, i, none⟩ = w.cell? ⟨b, i, none⟩) : Rw k enc w' p n l := by
  refine ⟨h.1, fun h0 => ?_⟩
  obtain ⟨b, o, rfl, hj⟩ := h.2 h0
  refine ⟨b, o, rfl, fun j x hx i hi => ?_⟩
  have hc := hj j x hx i hi
  have hlt : b < w.heap.size := by
    have hi' : i < (enc x).length := by rw [hk]; exact hi
    rw [List.getElem?_eq_getElem hi'] at hc
    exact World.block_lt_of_cell? w _ hc
  rw [he b _ hlt (fun a ha => by cases ha; rfl)]
  exact hc
theorem Rw.keep {w w' : World} {p : Option Addr} {n : Nat} {l : List α} (h : Rw k enc w p n l) (hk : ∀ x, (enc x).length = k) (hb : Below w.heap.size w w') : Rw k enc w' p n l :=
  h.like hk (fun b i hlt _ => hb.cell (p := ⟨b, i, none⟩) hlt)
theorem Rw.turn {w w' : World} {S : Nat → Prop} {p : Option Addr} {n : Nat} {l : List α} (h : Rw k enc w p n l) (hk : ∀ x, (enc x).length = k) (ht : Turn S w w') (hs : ∀ a, p = some a → ¬ S a.block) (hn : p ≠ none) : Rw k enc w' p n l := by
  refine h.like hk (fun b i hlt hp => World.cell?_of_block (a := ⟨b, i, none⟩) (ht.block b hlt (fun hS => ?_)))
  cases p with
  | none => exact hn rfl
  | some a =>
    have := hp a rfl
    subst this
    exact hs a rfl hS
theorem Rw.drewN {w : World} {p : Option Addr} {n : Nat} {l : List α} (h : Rw k enc w p n l) (m : Nat) : Rw k enc (w.drewN m) p n l := h
theorem Rw.take {w : World} {p : Option Addr} {n : Nat} {l : List α} (h : Rw k enc w p n l) (m : Nat) (hm : m ≤ n) : Rw k enc w p m (l.take m) := by
  refine ⟨by rw [List.length_take, h.1]; omega, fun h0 => ?_⟩
  obtain ⟨b, o, hp, hj⟩ := h.2 (by omega)
  refine ⟨b, o, hp, fun j x hx i hi => hj j x ?_ i hi⟩
  rw [List.getElem?_take] at hx
  split at hx
  · exact hx
  · cases hx
/-- An element's cell in a row that the call owns. -/
theorem row_cell (hk : ∀ x, (enc x).length = k) {w : World} {B g cap n : Nat} {e : TypeId} {l : List α} (h : w.ownsRow B e k (.slice (some ⟨g, 0, none⟩) n cap) n (l.flatMap enc)) (hl : l.length = n) {j : Nat} {x : α} (hx : l[j]? = some x) {i : Nat} (hi : i < k) :
    w.cell? ⟨g, j * k + i, none⟩ = (enc x)[i]? := by
  have hj : j < l.length := (List.getElem?_eq_some_iff.1 hx).1
  subst hl
  rw [h.cellAt (j * k + i) (by
    have : (j + 1) * k ≤ l.length * k := Nat.mul_le_mul_right k hj
    rw [Nat.add_mul] at this
    omega), flat_at hk l j i x hx hi]
/-- A store into an element's cell. -/
theorem row_store (hk : ∀ x, (enc x).length = k) {w : World} {B g cap n : Nat} {e : TypeId} {l : List α} (h : w.ownsRow B e k (.slice (some ⟨g, 0, none⟩) n cap) n (l.flatMap enc)) {j : Nat} {x x' : α} (hx : l[j]? = some x) {i : Nat} (hi : i < k) {u : Value} (he : enc x' = (enc x).set i u) :
    (w.setCell ⟨g, j * k + i, none⟩ u).ownsRow B e k (.slice (some ⟨g, 0, none⟩) n cap) n ((l.set j x').flatMap enc) := by
  rw [flat_set hk l j i x x' u hx hi he]
  exact (h.stored (j * k + i) u).1
theorem flat_snoc (l : List α) (x : α) : l.flatMap enc ++ enc x = (l ++ [x]).flatMap enc := by simp
end
/-- What of memory is an object's that holds one slice: its block, and its slice's. -/
def Feet (g : Nat) (v : Value) (k : Nat) : Prop := k = g ∨ v.ownBlock = some k
theorem own_some {w : World} {B : Nat} {e : TypeId} {k n : Nat} {v : Value} {xs : List Value} (h : w.ownsRow B e k v n xs) (hn : 0 < n) : ∃ b c, v = .slice (some ⟨b, 0, none⟩) n c ∧ B ≤ b ∧ b < w.heap.size ∧ n ≤ c := by
  rcases h.2 with ⟨_, h0⟩ | ⟨g, cap, cur, rfl, hb, hh, hc, _⟩
  · omega
  · exact ⟨g, cap, rfl, hb, (Array.getElem?_eq_some_iff.1 hh).1, hc⟩
end Go.Proofs.YtbahilakfgbgpaaDoor
