/- The document's answer of layer 8: a mark put into marks in order is put and sorted; what Put answers, whole. No condition but those written. -/
import Derived.Test.YtfdakkghikimcaaDr6
namespace Go.Proofs.Ytfdakkghikimcaa
open Go.RowKit

namespace Dr
open Se
theorem shape {r : Rd} : ∀ {S : List Rd}, Sorted S → (∃ A x C, S = A ++ x :: C ∧ one x r ∧ (∀ y ∈ A, lt y r) ∧ ∀ y ∈ C, lt r y) ∨ ∃ A C, S = A ++ C ∧ (∀ y ∈ A, lt y r) ∧ ∀ y ∈ C, lt r y := by
  intro S
  induction S with
  | nil => exact fun _ => .inr ⟨[], [], rfl, fun y hy => by simp at hy, fun y hy => by simp at hy⟩
  | cons z S ih =>
    intro h
    have hp := List.pairwise_cons.1 h
    rcases lt_or z r with h1 | h1 | h1
    · rcases ih hp.2 with ⟨A, x, C, e, h2, h3, h4⟩ | ⟨A, C, e, h3, h4⟩
      · exact .inl ⟨z :: A, x, C, by rw [e]; rfl, h2, fun y hy => by
          rcases List.mem_cons.1 hy with rfl | hy
          · exact h1
          · exact h3 y hy, h4⟩
      · exact .inr ⟨z :: A, C, by rw [e]; rfl, fun y hy => by
          rcases List.mem_cons.1 hy with rfl | hy
          · exact h1
          · exact h3 y hy, h4⟩
    · exact .inl ⟨[], z, S, rfl, h1, fun y hy => by simp at hy, fun y hy => by
        have := hp.1 y hy
        unfold lt one at *
        omega⟩
    · exact .inr ⟨[], z :: S, rfl, fun y hy => by simp at hy, fun y hy => by
        rcases List.mem_cons.1 hy with rfl | hy
        · exact h1
        · exact lt_trans h1 (hp.1 y hy)⟩
theorem fold_done {r : Rd} : ∀ {C : List Rd} {out : List Rd} {ch : Bool}, (∀ y ∈ C, lt r y) → C.foldl (step r) (out, true, ch) = (out ++ C, true, ch) := by
  intro C
  induction C with
  | nil => intro out ch _; simp
  | cons z C ih =>
    intro out ch h
    have hz := h z (by simp)
    rw [List.foldl_cons, step_eq, if_neg (by unfold lt at hz; omega), if_neg (by simp), ih (fun y hy => h y (by simp [hy]))]
    simp
theorem fold_ahead {r : Rd} : ∀ {A : List Rd} {out : List Rd} {ch : Bool}, (∀ y ∈ A, lt y r) → A.foldl (step r) (out, false, ch) = (out ++ A, false, ch) := by
  intro A
  induction A with
  | nil => intro out ch _; simp
  | cons z A ih =>
    intro out ch h
    have hz := h z (by simp)
    rw [List.foldl_cons, step_eq, if_neg (by unfold lt at hz; omega), if_neg (by
      rintro ⟨_, h2⟩
      have h2 : lt ⟨r.min, r.seq, 0⟩ ⟨z.min, z.seq, 0⟩ := of_decide_eq_true h2
      unfold lt at hz h2
      simp only at h2
      omega), ih (fun y hy => h y (by simp [hy]))]
    simp
theorem putF_one {A C : List Rd} {x r : Rd} (ho : one x r) (hA : ∀ y ∈ A, lt y r) (hC : ∀ y ∈ C, lt r y) : putF (A ++ x :: C) r = (A ++ ⟨x.min, x.seq, tenOf (opB x || opB r)⟩ :: C, opB r && !opB x) := by
  rw [putF_eq, List.foldl_append, show start = ([], false, true) from rfl, fold_ahead hA, List.foldl_cons, step_eq, if_pos (show x.min = r.min ∧ x.seq = r.seq from ho), fold_done hC]
  simp
theorem putF_new {A C : List Rd} {r : Rd} (hA : ∀ y ∈ A, lt y r) (hC : ∀ y ∈ C, lt r y) : putF (A ++ C) r = (A ++ r :: C, true) := by
  rw [putF_eq, List.foldl_append, show start = ([], false, true) from rfl, fold_ahead hA]
  cases C with
  | nil => simp
  | cons z C =>
    have hz := hC z (by simp)
    rw [List.foldl_cons, step_eq, if_neg (show ¬ (z.min = r.min ∧ z.seq = r.seq) by unfold lt at hz; omega), if_pos (show false = false ∧ ltB ⟨r.min, r.seq, 0⟩ ⟨z.min, z.seq, 0⟩ = true from ⟨rfl, decide_eq_true (by unfold lt at hz ⊢; exact hz)⟩), fold_done (fun y hy => hC y (by simp [hy]))]
    simp
theorem pick_x {x r : Rd} (t2 : x.ten = tenOf (opB x)) (h : (opB r && !opB x) = false) : (⟨x.min, x.seq, tenOf (opB x || opB r)⟩ : Rd) = x := by
  have e : tenOf (opB x || opB r) = x.ten := by
    rw [t2]
    revert h
    generalize opB x = a
    generalize opB r = b
    cases a <;> cases b <;> simp
  rw [e]
theorem pick_r {x r : Rd} (ho : one x r) (t1 : r.ten = tenOf (opB r)) (h : opB r = true) : (⟨x.min, x.seq, tenOf (opB x || opB r)⟩ : Rd) = r := by
  have e : tenOf (opB x || opB r) = r.ten := by
    rw [t1, h, Bool.or_true]
  rw [e, ho.1, ho.2]
/-- What is put into marks in order. -/
theorem putF_put {S : List Rd} (hs : Sorted S) {r : Rd} (hr : binB r = true) (hS : ∀ x ∈ S, binB x = true) : putF S r = (sortL (put S r).2, (put S r).1) := by
  rcases shape (r := r) hs with ⟨A, x, C, rfl, ho, hA, hC⟩ | ⟨A, C, rfl, hA, hC⟩
  · have hx : (A ++ x :: C)[A.length]? = some x := by simp
    have t1 := ten_opB hr
    have t2 := ten_opB (hS x (by simp))
    rw [putF_one ho hA hC, put_there hs hx ho]
    have ht : ∀ b c : Bool, tenOf b ≤ tenOf c ↔ (b && !c) = false := by decide
    by_cases h : r.ten ≤ x.ten
    · rw [if_pos h, sort_self hs]
      rw [t1, t2, ht] at h
      rw [h]
      rw [pick_x t2 h]
    · rw [if_neg h, sort_set hs hx ho]
      rw [t1, t2, ht] at h
      have h : (opB r && !opB x) = true := by simpa using h
      rw [h]
      rw [pick_r ho t1 (by revert h; cases opB r <;> simp)]
      simp
  · have hn : ∀ j y, j < (A ++ C).length → (A ++ C)[j]? = some y → ¬ one y r := by
      intro j y _ hy ho
      rcases List.mem_append.1 (List.mem_of_getElem? hy) with h | h
      · exact not_lt_one ho (hA y h)
      · exact not_lt_one (one_comm ho) (hC y h)
    rw [putF_new hA hC, put_end hn]
    simp only
    rw [sort_insert hs (i := A.length) (fun j x hx => ⟨fun hj => ?_, fun hj => ?_⟩)]
    · simp
    · rw [List.getElem?_append_left hj] at hx
      exact hA x (List.mem_of_getElem? hx)
    · rw [List.getElem?_append_right hj] at hx
      exact hC x (List.mem_of_getElem? hx)
end Dr
end Go.Proofs.Ytfdakkghikimcaa
