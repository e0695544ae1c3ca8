/- Walks over package stays: may stays be, does the last one go on, may something be done now. Condition: the list reads as stays. -/
import Derived.Test.YtdnjmcfnngkhlaaSyFace
import Derived.Deep.QuietTactic
import Derived.BigQuiet
namespace Go.Proofs.Ytdnjmcfnngkhlaa
open Go.RowKit

namespace Sy
/-- A stay's cells. -/
theorem rw_at {w : World} {p : Option Addr} {n : Nat} {S : List Sy} (h : Rw 3 scells w p n S) {k : Nat} {x : Sy} (hx : S[k]? = some x) :
    ∃ b o, p = some ⟨b, o, none⟩ ∧ w.cell? ⟨b, o + k * 3, none⟩ = some (.int .i64 x.zone) ∧ w.cell? ⟨b, o + k * 3 + 1, none⟩ = some (.int .i64 x.frm) ∧ w.cell? ⟨b, o + k * 3 + 2, none⟩ = some (.int .i64 x.to) := by
  have hk : k < S.length := (List.getElem?_eq_some_iff.1 hx).1
  obtain ⟨b, o, e, hc⟩ := h.2 (by rw [← h.1]; omega)
  exact ⟨b, o, e, hc k x hx 0 (by decide), hc k x hx 1 (by decide), hc k x hx 2 (by decide)⟩
/-- What stands ahead of the one that a loop is at is as it may be. -/
def Ahead (S : List Sy) (k : Nat) : Prop := ∀ i s, i < k → S[i]? = some s → 1 ≤ s.zone ∧ 0 ≤ s.frm ∧ (s.frm < s.to ∨ s.to = -1) ∧ ∀ t, 0 < i → S[i - 1]? = some t → s.frm = t.to
theorem ahead_zero (S : List Sy) : Ahead S 0 := fun i s h => by omega
theorem ahead_next {S : List Sy} {k : Nat} {x : Sy} (h : Ahead S k) (hx : S[k]? = some x) (h1 : 1 ≤ x.zone ∧ 0 ≤ x.frm ∧ (x.frm < x.to ∨ x.to = -1) ∧ ∀ t, 0 < k → S[k - 1]? = some t → x.frm = t.to) : Ahead S (k + 1) := fun i s hi hs => by
  by_cases hlt : i < k
  · exact h i s hlt hs
  · obtain rfl : i = k := by omega
    rw [hx] at hs
    rw [← Option.some.inj hs]
    exact h1
theorem ahead_all {S : List Sy} (h : Ahead S S.length) : rightB S = true := rightB_iff.2 fun i s hs => h i s (List.getElem?_eq_some_iff.1 hs).1 hs
set_option maxRecDepth 100000 in
set_option maxHeartbeats 8000000 in
theorem pright_any (p : Option Addr) (n c : Nat) (S : List Sy) (w : World) (h : Rw 3 scells w p n S) (hn : n ≤ 1000000) :
    Calls Try.prog 8 #[.slice p n c] w fun e w' => e = .returned (.bool (rightB S)) ∧ Below w.heap.size w w' := by
  have hn' : (n : Int) ≤ 1000000 := by omega
  have H := Lib.hid h
  have HN := Lib.hid h.1
  have B0 := Lib.hid (Below.refl w.heap.size w)
  clear h
  go_enter Try.func8, Try.ntmps8
  go_wp2_with fail
  go_loopw [7] (fun i wr => ∃ k : Nat, k ≤ n ∧ i = .int .i64 k ∧ Hid (Below w.heap.size w wr) ∧ Hid (Ahead S k)) (fun i _ => n - (intOf i).toNat)
  case atStart => exact ⟨0, Nat.zero_le _, rfl, B0, Lib.hid (ahead_zero S)⟩
  case round =>
    clear B0
    obtain ⟨k, hk, rfl, HB, HA⟩ := hrel
    by_cases hlt : k < n
    · obtain ⟨x, hx⟩ : ∃ x, S[k]? = some x := ⟨_, List.getElem?_eq_getElem (by rw [HN.out]; exact hlt)⟩
      obtain ⟨b, o, rfl, e0, e1, e2⟩ := rw_at (H.out.keep scells_len HB.out) hx
      have hk3 : (k : Int) < (n : Int) := by omega
      have HX := Lib.hid hx
      have B1 := Lib.hid (HB.out.alloc (HB.out.size) (.cells (scells x).toArray 33))
      have hbad : ¬ (1 ≤ x.zone ∧ 0 ≤ x.frm ∧ (x.frm < x.to ∨ x.to = -1)) → Hid (rightB S = false) := fun h => Lib.hid (right_bad HX.out (fun hh => h ⟨hh.1, hh.2.1, hh.2.2.1⟩))
      have lb := World.block_lt_of_cell? wr _ e0
      by_cases hz : 1 ≤ x.zone
      · by_cases hf : 0 ≤ x.frm
        · by_cases ht : x.frm < x.to ∨ x.to = -1
          · rcases Nat.lt_or_ge 0 k with hk0 | hk0
            · obtain ⟨y, hy⟩ : ∃ y, S[k - 1]? = some y := ⟨_, List.getElem?_eq_getElem (by rw [HN.out]; omega)⟩
              obtain ⟨b', o', eq, _, _, f2⟩ := rw_at (H.out.keep scells_len HB.out) hy
              cases eq
              have gk : decide (0 < k) = true := by simp; omega
              have hw2 : IntKind.i64.wrap ((k : Int) - 1) = ((k - 1 : Nat) : Int) := by rw [show (k : Int) - 1 = ((k - 1 : Nat) : Int) by omega]; exact IntWalk.i64_in _ (by omega)
              have hj3 : ((k - 1 : Nat) : Int) < (n : Int) := by omega
              have HY := Lib.hid hy
              obtain ⟨j, hj⟩ : ∃ j, k - 1 = j := ⟨_, rfl⟩
              rw [hj] at hw2 hj3 f2
              have HJ := Lib.hid hj
              clear hj
              by_cases hq : x.frm = y.to
              · have A1 := Lib.hid (ahead_next HA.out HX.out ⟨hz, hf, ht, fun t _ h1 => by rw [HY.out] at h1; rw [← Option.some.inj h1]; exact hq⟩)
                have tq : (x.frm != y.to) = false := by simp [hq]
                clear hbad hx hy hq
                rcases ht with ht | ht
                · have tt : ¬ x.to ≤ x.frm := by omega
                  go_wp2_with fail
                  go_quiet (fail)
                  go_wp2
                  go_roundw
                  case rel => exact ⟨k + 1, by omega, by go_num, Lib.hid (below_drewN B1.out _), A1⟩
                  case measure => simp [intOf]; omega
                · by_cases htt : x.frm < x.to
                  · have tt : ¬ x.to ≤ x.frm := by omega
                    clear ht
                    go_wp2_with fail
                    go_quiet (fail)
                    go_wp2
                    go_roundw
                    case rel => exact ⟨k + 1, by omega, by go_num, Lib.hid (below_drewN B1.out _), A1⟩
                    case measure => simp [intOf]; omega
                  · have tt : x.to ≤ x.frm := by omega
                    have te : (x.to != -1) = false := by simp [ht]
                    clear ht htt
                    go_wp2_with fail
                    go_quiet (fail)
                    go_wp2
                    go_roundw
                    case rel => exact ⟨k + 1, by omega, by go_num, Lib.hid (below_drewN B1.out _), A1⟩
                    case measure => simp [intOf]; omega
              · have HR := Lib.hid (right_bad HX.out (fun hh => hq (hh.2.2.2 y hk0 HY.out)))
                have tq : (x.frm != y.to) = true := by simp [hq]
                clear hbad hx hy hq
                rcases ht with ht | ht
                · have tt : ¬ x.to ≤ x.frm := by omega
                  go_wp2_with fail
                  go_quiet (fail)
                  go_wp2
                  go_ret
                  exact ⟨by rw [HR.out]; rfl, below_drewN B1.out _⟩
                · by_cases htt : x.frm < x.to
                  · have tt : ¬ x.to ≤ x.frm := by omega
                    clear ht
                    go_wp2_with fail
                    go_quiet (fail)
                    go_wp2
                    go_ret
                    exact ⟨by rw [HR.out]; rfl, below_drewN B1.out _⟩
                  · have tt : x.to ≤ x.frm := by omega
                    have te : (x.to != -1) = false := by simp [ht]
                    clear ht htt
                    go_wp2_with fail
                    go_quiet (fail)
                    go_wp2
                    go_ret
                    exact ⟨by rw [HR.out]; rfl, below_drewN B1.out _⟩
            · have A1 := Lib.hid (ahead_next HA.out HX.out ⟨hz, hf, ht, fun t h0 => by omega⟩)
              have gk : decide (0 < k) = false := by simp; omega
              have hkk := Lib.hid hk0
              clear hbad hx hk0
              rcases ht with ht | ht
              · have tt : ¬ x.to ≤ x.frm := by omega
                go_wp2_with fail
                go_quiet (fail)
                go_wp2
                go_roundw
                case rel => exact ⟨k + 1, by omega, by go_num, Lib.hid (below_drewN B1.out _), A1⟩
                case measure => simp [intOf]; omega
              · by_cases htt : x.frm < x.to
                · have tt : ¬ x.to ≤ x.frm := by omega
                  clear ht
                  go_wp2_with fail
                  go_quiet (fail)
                  go_wp2
                  go_roundw
                  case rel => exact ⟨k + 1, by omega, by go_num, Lib.hid (below_drewN B1.out _), A1⟩
                  case measure => simp [intOf]; omega
                · have tt : x.to ≤ x.frm := by omega
                  have te : (x.to != -1) = false := by simp [ht]
                  clear ht htt
                  go_wp2_with fail
                  go_quiet (fail)
                  go_wp2
                  go_roundw
                  case rel => exact ⟨k + 1, by omega, by go_num, Lib.hid (below_drewN B1.out _), A1⟩
                  case measure => simp [intOf]; omega
          · have HR := hbad (fun hh => ht hh.2.2)
            have tt : x.to ≤ x.frm := by omega
            have te : (x.to != -1) = true := by simp; omega
            clear hbad hx ht
            go_wp2
            go_ret
            exact ⟨by rw [HR.out]; rfl, B1.out⟩
        · have hf' : x.frm < 0 := by omega
          have HR := hbad (fun hh => hf hh.2.1)
          clear hbad hx hf
          go_wp2
          go_ret
          exact ⟨by rw [HR.out]; rfl, B1.out⟩
      · have hz' : x.zone < 1 := by omega
        have HR := hbad (fun hh => hz hh.1)
        clear hbad hx hz
        go_wp2
        go_ret
        exact ⟨by rw [HR.out]; rfl, B1.out⟩
    · obtain rfl : k = n := by omega
      have HE := Lib.hid (ahead_all (by rw [HN.out]; exact HA.out))
      go_wp2
      go_ret
      exact ⟨by rw [HE.out]; rfl, HB.out⟩
end Sy
end Go.Proofs.Ytdnjmcfnngkhlaa
