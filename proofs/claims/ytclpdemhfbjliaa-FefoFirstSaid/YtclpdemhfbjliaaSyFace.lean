/- What layer 9's law leans on of package stays: a bundle of contracts, whatever the package is like inside; a step in plain words. No condition but those written. -/
import Derived.Test.YtclpdemhfbjliaaSyPn
import Derived.Test.YtclpdemhfbjliaaRw
namespace Go.Proofs.Ytclpdemhfbjliaa
open Go.RowKit

namespace Sy
def scells (s : Sy) : List Value := [.int .i64 s.zone, .int .i64 s.frm, .int .i64 s.to]
theorem scells_len (s : Sy) : (scells s).length = 3 := rfl
/-- The last one goes on. -/
def On (l : List Sy) : Prop := ∃ A x, l = A ++ [x] ∧ x.to = -1
/-- Where steps have led: stays, the minute, the zone (0: nowhere). -/
structure Inv (S : List Sy) (now inn : Int) : Prop where
  right : Right S
  now0 : 0 ≤ now
  goes : 0 < inn → ∃ A x, S = A ++ [x] ∧ x.to = -1 ∧ x.frm ≤ now ∧ x.zone = inn
  ended : ¬ 0 < inn → inn = 0 ∧ ∀ x, S.getLast? = some x → 0 ≤ x.to ∧ x.to ≤ now
theorem inv_start : Inv [] 0 0 := ⟨right_nil, Int.le_refl _, fun h => by omega, fun _ => ⟨rfl, fun x h => by simp at h⟩⟩
theorem inv_on {S : List Sy} {now inn d : Int} (h : Inv S now inn) (hd : 0 ≤ d) : Inv S (now + d) inn :=
  ⟨h.right, by have := h.now0; omega, fun hi => by
    obtain ⟨A, x, e, h1, h2, h3⟩ := h.goes hi
    exact ⟨A, x, e, h1, by omega, h3⟩, fun hi => ⟨(h.ended hi).1, fun x hx => by
    have := (h.ended hi).2 x hx
    omega⟩⟩
theorem inv_may {S : List Sy} {now inn : Int} (h : Inv S now inn) : May S now ↔ (0 < inn ∨ S = [] ∨ ∃ x, S.getLast? = some x ∧ x.to = now) := by
  constructor
  · intro hm
    by_cases hi : 0 < inn
    · exact .inl hi
    · right
      rcases ends_of S with rfl | ⟨A, s, rfl⟩
      · exact .inl rfl
      · right
        have hl : (A ++ [s]).getLast? = some s := List.getLast?_concat ..
        have h1 := (h.ended hi).2 s hl
        rcases may_last hm with ⟨e, _⟩ | e
        · omega
        · exact ⟨s, hl, e⟩
  · intro hc
    refine ⟨h.right, h.now0, fun s hs => ?_⟩
    rcases hc with hi | rfl | ⟨x, hx, e⟩
    · obtain ⟨A, x, e, h1, h2, _⟩ := h.goes hi
      rw [e, List.getLast?_concat] at hs
      rw [← Option.some.inj hs]
      exact .inl ⟨h1, h2⟩
    · simp at hs
    · rw [hx] at hs
      rw [← Option.some.inj hs]
      exact .inr e
theorem inv_goes {S : List Sy} {now inn : Int} (h : Inv S now inn) : On S ↔ 0 < inn := by
  constructor
  · rintro ⟨A, x, rfl, hx⟩
    by_cases hi : 0 < inn
    · exact hi
    · have := (h.ended hi).2 x (List.getLast?_concat ..)
      omega
  · intro hi
    obtain ⟨A, x, e, h1, _⟩ := h.goes hi
    exact ⟨A, x, e, h1⟩
/-- A step into a zone. -/
theorem inv_enter {S : List Sy} {now inn z : Int} (h : Inv S now inn) (hm : May S now) (hz : 1 ≤ z) :
    Inv (goS (untilS S now) z now) now z ∧ ∀ m, zoneS (goS (untilS S now) z now) m = if m < now then zoneS S m else z := by
  obtain ⟨h1, h2⟩ := until_ok hm
  obtain ⟨g1, A, x, e, gx, gf, gz⟩ := go_ok h1 h2 h.now0 hz
  refine ⟨⟨g1, h.now0, fun _ => ⟨A, x, e, gx, gf, gz⟩, fun hn => by omega⟩, fun m => ?_⟩
  rw [zone_go h1 h2]
  by_cases hm' : m < now
  · rw [if_pos hm', if_pos hm', zone_until hm hm']
  · rw [if_neg hm', if_neg hm']
/-- A step out. -/
theorem inv_leave {S : List Sy} {now inn : Int} (h : Inv S now inn) (hi : 0 < inn) :
    May S now ∧ Inv (untilS S now) now 0 ∧ ∀ m, zoneS (untilS S now) m = if m < now then zoneS S m else 0 := by
  have hm := (inv_may h).2 (.inl hi)
  obtain ⟨h1, h2⟩ := until_ok hm
  refine ⟨hm, ⟨shut_right h1, h.now0, fun hh => by omega, fun _ => ⟨rfl, fun x hx => ?_⟩⟩, fun m => ?_⟩
  · rw [h2 x hx]
    exact ⟨h.now0, Int.le_refl _⟩
  · by_cases hm' : m < now
    · rw [if_pos hm', zone_until hm hm']
    · rw [if_neg hm', zone_shut h1 h2 (by omega)]
theorem until_len (l : List Sy) (now : Int) : (untilS l now).length ≤ l.length := by
  rcases ends_of l with rfl | ⟨A, s, rfl⟩
  · exact Nat.le_refl _
  · by_cases h : s.to = -1
    · by_cases hn : s.frm < now
      · rw [until_cut h hn]
        simp
      · rw [until_drop h hn]
        simp
    · rw [until_shut h]
      exact Nat.le_refl _
theorem go_len (U : List Sy) (z now : Int) : (goS U z now).length ≤ U.length + 1 := by
  rcases ends_of U with rfl | ⟨B, u, rfl⟩
  · rw [go_nil]
    simp
  · by_cases hc : u.zone = z
    · subst hc
      rw [go_same]
      simp
    · rw [go_new hc]
      simp
def UptoEnd (U : List Sy) (w : World) (e : Ending) (w' : World) : Prop := ∃ v, e = .returned v ∧ w'.ownsRow w.heap.size 94 3 v U.length (U.flatMap scells) ∧ Below w.heap.size w w'
/-- Stays that are handed out, without an error: the call's own row. -/
def OkEnd (L : List Sy) (w : World) (e : Ending) (w' : World) : Prop := ∃ v, e = .returned (.tuple #[v, .int .i64 0]) ∧ w'.ownsRow w.heap.size 94 3 v L.length (L.flatMap scells) ∧ Below w.heap.size w w'
/-- ErrArg, and nothing. -/
def NoEnd (w : World) (e : Ending) (w' : World) : Prop := e = .returned (.tuple #[.slice none 0 0, .int .i64 1]) ∧ Below w.heap.size w w'
/-- Contracts of package stays. -/
structure Face where
end Sy
end Go.Proofs.Ytclpdemhfbjliaa
