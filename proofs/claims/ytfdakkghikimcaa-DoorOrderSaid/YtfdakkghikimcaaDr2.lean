/- Walks over the document's answer of layer 8: is the door open, the next mark. No condition but those written. -/
import Derived.Test.YtfdakkghikimcaaDr1
namespace Go.Proofs.Ytfdakkghikimcaa
open Go.RowKit

namespace Dr
open Se
/-- What the marks say of a minute, one behind the other. -/
def opnF (L : List Rd) (m : Int) : Bool := L.foldl (fun o x => if x.min ≤ m then opB x else o) false
theorem opnF_snoc (L : List Rd) (x : Rd) (m : Int) : opnF (L ++ [x]) m = if x.min ≤ m then opB x else opnF L m := by
  unfold opnF
  rw [List.foldl_append]
  rfl
theorem opnF_next {L : List Rd} {k : Nat} {x : Rd} {m : Int} (hx : L[k]? = some x) : opnF (L.take (k + 1)) m = if x.min ≤ m then opB x else opnF (L.take k) m := by
  rw [List.take_add_one, hx, Option.toList_some, opnF_snoc]
theorem nxt_next {L : List Rd} {k : Nat} {x : Rd} {m : Int} (hx : L[k]? = some x) : nxt (L.take (k + 1)) m = if m < x.min ∧ x.min < nxt (L.take k) m then x.min else nxt (L.take k) m := by
  rw [List.take_add_one, hx, Option.toList_some, nxt_snoc]
/-- Where the marks lie in order the last one tells. -/
theorem opnF_sorted {m : Int} : ∀ {L : List Rd}, L.Pairwise lt → opnF L m = opn L m := by
  have key : ∀ l : List Rd, l.reverse.Pairwise lt → opnF l.reverse m = opn l.reverse m := by
    intro l
    induction l with
    | nil => intro _; rfl
    | cons x l ih =>
      intro h
      rw [List.reverse_cons] at h ⊢
      have hp := List.pairwise_append.1 h
      rw [opnF_snoc, ih hp.1]
      unfold opn
      rw [lastL_snoc]
      by_cases hm : x.min ≤ m
      · rw [if_pos hm]
        rcases lastL_spec l.reverse m with ⟨h1, _⟩ | ⟨y, h1, h2, _⟩
        · rw [h1]
          unfold lastStep
          rw [if_neg (by omega)]
        · rw [h1]
          unfold lastStep
          rw [if_neg (by omega)]
          simp only
          rw [if_pos (hp.2.2 y h2 x (by simp))]
      · rw [if_neg hm]
        unfold lastStep
        rw [if_pos (by omega)]
  intro L h
  have := key L.reverse (by rwa [List.reverse_reverse])
  rwa [List.reverse_reverse] at this
set_option maxRecDepth 100000 in
set_option maxHeartbeats 1000000 in
theorem dopen_any (p : Option Addr) (n c : Nat) (l : List Rd) (m : Int) (w : World) (hn : n ≤ 9223372036854775807) (h : Rw 3 mcells w p n l) :
    Calls Try.prog 18 #[.slice p n c, .int .i64 m] w fun e w' => e = .returned (.bool (opnF l m)) ∧ w = w' := by
  have H := Lib.hid h
  clear h
  go_enter Try.func18, Try.ntmps18
  go_wp2
  go_loop [5, 6] (fun o i => ∃ k : Nat, k ≤ n ∧ i = .int .i64 k ∧ o = .bool (opnF (l.take k) m)) (fun _ i => n - (intOf i).toNat)
  case atStart => exact ⟨0, Nat.zero_le _, rfl, rfl⟩
  case round =>
    obtain ⟨k, hk, rfl, rfl⟩ := hrel
    by_cases hlt : k < n
    · obtain ⟨b, o, rfl, hc⟩ := H.out.2 (by omega)
      obtain ⟨x, hx⟩ : ∃ x, l[k]? = some x := ⟨_, List.getElem?_eq_getElem (by rw [H.out.1]; exact hlt)⟩
      have e0 : w.cell? ⟨b, o + k * 3, none⟩ = some (.int .i64 x.min) := hc k x hx 0 (by decide)
      have e2 : w.cell? ⟨b, o + k * 3 + 2, none⟩ = some (.bool (opB x)) := hc k x hx 2 (by decide)
      have hk3 : (k : Int) < (n : Int) := by omega
      have HS := Lib.hid (opnF_next (m := m) hx)
      clear hc hx
      by_cases hm : x.min ≤ m
      · rw [if_pos hm] at HS
        go_wp2
        go_round
        case rel => exact ⟨k + 1, by omega, by go_num, by rw [HS.out]⟩
        case measure => simp [intOf]; omega
      · have hm' : m < x.min := by omega
        rw [if_neg hm] at HS
        go_wp2
        go_round
        case rel => exact ⟨k + 1, by omega, by go_num, by rw [HS.out]⟩
        case measure => simp [intOf]; omega
    · obtain rfl : k = n := by omega
      have HE := Lib.hid (show l.take k = l by rw [List.take_of_length_le (by rw [H.out.1]; exact Nat.le_refl _)])
      go_wp2
      go_ret
      exact ⟨by rw [HE.out]; rfl, rfl⟩
set_option maxRecDepth 100000 in
set_option maxHeartbeats 1000000 in
theorem dnext_any (p : Option Addr) (n c : Nat) (l : List Rd) (m : Int) (w : World) (hn : n ≤ 9223372036854775807) (h : Rw 3 mcells w p n l) :
    Calls Try.prog 26 #[.slice p n c, .int .i64 m] w fun e w' => e = .returned (.int .i64 (nxt l m)) ∧ w = w' := by
  have H := Lib.hid h
  clear h
  go_enter Try.func26, Try.ntmps26
  go_wp2
  go_loop [5, 6] (fun o i => ∃ k : Nat, k ≤ n ∧ i = .int .i64 k ∧ o = .int .i64 (nxt (l.take k) m)) (fun _ i => n - (intOf i).toNat)
  case atStart => exact ⟨0, Nat.zero_le _, rfl, rfl⟩
  case round =>
    obtain ⟨k, hk, rfl, rfl⟩ := hrel
    by_cases hlt : k < n
    · obtain ⟨b, o, rfl, hc⟩ := H.out.2 (by omega)
      obtain ⟨x, hx⟩ : ∃ x, l[k]? = some x := ⟨_, List.getElem?_eq_getElem (by rw [H.out.1]; exact hlt)⟩
      have e0 : w.cell? ⟨b, o + k * 3, none⟩ = some (.int .i64 x.min) := hc k x hx 0 (by decide)
      have hk3 : (k : Int) < (n : Int) := by omega
      have HS := Lib.hid (nxt_next (m := m) hx)
      clear hc hx
      generalize nxt (l.take k) m = t at *
      by_cases hm : m < x.min
      · by_cases ht : x.min < t
        · rw [if_pos ⟨hm, ht⟩] at HS
          go_wp2
          go_round
          case rel => exact ⟨k + 1, by omega, by go_num, by rw [HS.out]⟩
          case measure => simp [intOf]; omega
        · have ht' : t ≤ x.min := by omega
          rw [if_neg (fun h => ht h.2)] at HS
          go_wp2
          go_round
          case rel => exact ⟨k + 1, by omega, by go_num, by rw [HS.out]⟩
          case measure => simp [intOf]; omega
      · have hm' : x.min ≤ m := by omega
        rw [if_neg (fun h => hm h.1)] at HS
        go_wp2
        go_round
        case rel => exact ⟨k + 1, by omega, by go_num, by rw [HS.out]⟩
        case measure => simp [intOf]; omega
    · obtain rfl : k = n := by omega
      have HE := Lib.hid (show l.take k = l by rw [List.take_of_length_le (by rw [H.out.1]; exact Nat.le_refl _)])
      go_wp2
      go_ret
      exact ⟨by rw [HE.out]; rfl, rfl⟩
end Dr
end Go.Proofs.Ytfdakkghikimcaa
