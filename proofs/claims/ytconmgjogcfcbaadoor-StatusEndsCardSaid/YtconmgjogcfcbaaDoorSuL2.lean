/- StatusEnds' walk: it answers true. Condition: the table and the names are as the program lays them. -/
import Derived.Test.YtconmgjogcfcbaaDoorSu2
namespace Go.Proofs.YtconmgjogcfcbaaDoor
open Go.RowKit

namespace Su
/-- What the walk is told of a list of whole numbers that came in: it is nil; or it leads to a row of 'cap' cells, the numbers 'zs'. -/
def IsRow (k : IntKind) (w : World) (a : Option Addr) (len cap : Nat) (zs : List Int) : Prop :=
  (a = none ∧ len = 0 ∧ cap = 0 ∧ zs = []) ∨
  ∃ x, a = some x ∧ len ≤ cap ∧ cap ≤ maxLen ∧ zs.length = cap ∧ (∀ i, i < zs.length → w.cell? (x.add i) = some (.int k (zs.getD i 0))) ∧ ∀ n ∈ zs, (Lit.int k n).wf = true
/-- The events: each one's cell. -/
def Evs (w : World) (p : Option Addr) (len : Nat) : Prop := 0 < len → ∃ b o, p = some ⟨b, o, none⟩ ∧ ∀ k, k < len → ∃ x : Int, w.cell? ⟨b, o + k, none⟩ = some (.int .i64 x)
theorem evs_row {w : World} {p : Option Addr} {len cap : Nat} {zs : List Int} (h : IsRow .i64 w p len cap zs) : Evs w p len ∧ len ≤ 9223372036854775807 := by
  rcases h with ⟨rfl, rfl, _⟩ | ⟨x, rfl, hl, hm, hz, hcell, _⟩
  · exact ⟨fun h => by omega, by omega⟩
  · unfold maxLen at hm
    refine ⟨fun h0 => ?_, by omega⟩
    obtain ⟨bk, off, spot⟩ := x
    have hc0 := hcell 0 (by omega)
    have hspot : spot = none := by simpa [Addr.add] using World.cell?_spot hc0
    subst hspot
    refine ⟨bk, off, rfl, fun j hj => ⟨zs.getD j 0, ?_⟩⟩
    have := hcell j (by omega)
    rw [← this]
    unfold Addr.add
    split
    · rename_i h; subst h; rfl
    · rfl
/-- Where the events have led. -/
def At5 (s : Int) : Prop := s = 0 ∨ s = 1 ∨ s = 2 ∨ s = 3 ∨ s = 4
set_option maxHeartbeats 4000000 in
theorem ends_long (p : Option Addr) (len cap : Nat) (w : World) (hlen : 200 < len) (hm : len ≤ 9223372036854775807) (hr : Ready w) :
    Calls Tryd.prog 4 #[.slice p len cap] w fun en w' => en = .returned (.bool true) ∧ Below w.heap.size w w' := by
  have R := Lib.hid hr
  have hl : (200 : Int) < len := by omega
  clear hr
  go_enter Tryd.func4, Tryd.ntmps4
  go_wp2_with fail
  refine (alive_any _ R.out).mono ?_
  rintro en w' ⟨rfl, rfl⟩
  go_wp2
  go_ret
  exact ⟨rfl, Below.refl _ _⟩
set_option maxRecDepth 100000 in
set_option maxHeartbeats 8000000 in
theorem ends_short (p : Option Addr) (len cap : Nat) (w : World) (hlen : len ≤ 200) (he : Evs w p len) (hr : Ready w) :
    Calls Tryd.prog 4 #[.slice p len cap] w fun en w' => en = .returned (.bool true) ∧ Below w.heap.size w w' := by
  have R := Lib.hid hr
  have EV := Lib.hid he
  have hl : (len : Int) ≤ 200 := by omega
  clear hr he
  go_enter Tryd.func4, Tryd.ntmps4
  go_wp2_with fail
  go_loop [3, 4] (fun v i => ∃ (k : Nat) (s : Int), k ≤ len ∧ i = .int .i64 k ∧ v = .int .i64 s ∧ Hid (At5 s)) (fun _ i => len - (intOf i).toNat)
  case atStart => exact ⟨0, 0, Nat.zero_le _, rfl, rfl, Lib.hid (.inl rfl)⟩
  case round =>
    obtain ⟨k, s, hk, rfl, rfl, S⟩ := hrel
    by_cases hlt : k < len
    · obtain ⟨b, o, rfl, hc⟩ := EV.out (by omega)
      obtain ⟨x, hx⟩ := hc k hlt
      clear hc
      rcases S.out with rfl | rfl | rfl | rfl | rfl
      · clear S
        cases ho : okB x with
        | false =>
          have E := Lib.hid (aft_arg (s := 0) (e := x) (by rw [ho, Bool.and_false]))
          clear ho
          go_wp2_with fail
          refine (after_at E.out _ R.out).mono ?_
          rintro en w' ⟨rfl, rfl⟩
          go_wp2
          go_round
          case rel => exact ⟨k + 1, 0, by omega, by go_num, rfl, Lib.hid (by unfold At5; decide)⟩
          case measure => simp [intOf]; omega
        | true =>
          have h5 := five ho
          clear ho
          rcases h5 with rfl | rfl | rfl | rfl | rfl
          · go_wp2_with fail
            refine (after_at (a := 1) (f := 0) (by decide) _ R.out).mono ?_
            rintro en w' ⟨rfl, rfl⟩
            go_wp2
            go_round
            case rel => exact ⟨k + 1, 1, by omega, by go_num, rfl, Lib.hid (by unfold At5; decide)⟩
            case measure => simp [intOf]; omega
          · go_wp2_with fail
            refine (after_at (a := 2) (f := 0) (by decide) _ R.out).mono ?_
            rintro en w' ⟨rfl, rfl⟩
            go_wp2
            go_round
            case rel => exact ⟨k + 1, 2, by omega, by go_num, rfl, Lib.hid (by unfold At5; decide)⟩
            case measure => simp [intOf]; omega
          · go_wp2_with fail
            refine (after_at (a := 0) (f := 8) (by decide) _ R.out).mono ?_
            rintro en w' ⟨rfl, rfl⟩
            go_wp2
            go_round
            case rel => exact ⟨k + 1, 0, by omega, by go_num, rfl, Lib.hid (by unfold At5; decide)⟩
            case measure => simp [intOf]; omega
          · go_wp2_with fail
            refine (after_at (a := 3) (f := 0) (by decide) _ R.out).mono ?_
            rintro en w' ⟨rfl, rfl⟩
            go_wp2
            go_round
            case rel => exact ⟨k + 1, 3, by omega, by go_num, rfl, Lib.hid (by unfold At5; decide)⟩
            case measure => simp [intOf]; omega
          · go_wp2_with fail
            refine (after_at (a := 0) (f := 8) (by decide) _ R.out).mono ?_
            rintro en w' ⟨rfl, rfl⟩
            go_wp2
            go_round
            case rel => exact ⟨k + 1, 0, by omega, by go_num, rfl, Lib.hid (by unfold At5; decide)⟩
            case measure => simp [intOf]; omega
      · clear S
        cases ho : okB x with
        | false =>
          have E := Lib.hid (aft_arg (s := 1) (e := x) (by rw [ho, Bool.and_false]))
          clear ho
          go_wp2_with fail
          refine (after_at E.out _ R.out).mono ?_
          rintro en w' ⟨rfl, rfl⟩
          go_wp2
          go_round
          case rel => exact ⟨k + 1, 1, by omega, by go_num, rfl, Lib.hid (by unfold At5; decide)⟩
          case measure => simp [intOf]; omega
        | true =>
          have h5 := five ho
          clear ho
          rcases h5 with rfl | rfl | rfl | rfl | rfl
          · go_wp2_with fail
            refine (after_at (a := 0) (f := 8) (by decide) _ R.out).mono ?_
            rintro en w' ⟨rfl, rfl⟩
            go_wp2
            go_round
            case rel => exact ⟨k + 1, 1, by omega, by go_num, rfl, Lib.hid (by unfold At5; decide)⟩
            case measure => simp [intOf]; omega
          · go_wp2_with fail
            refine (after_at (a := 2) (f := 0) (by decide) _ R.out).mono ?_
            rintro en w' ⟨rfl, rfl⟩
            go_wp2
            go_round
            case rel => exact ⟨k + 1, 2, by omega, by go_num, rfl, Lib.hid (by unfold At5; decide)⟩
            case measure => simp [intOf]; omega
          · go_wp2_with fail
            refine (after_at (a := 0) (f := 8) (by decide) _ R.out).mono ?_
            rintro en w' ⟨rfl, rfl⟩
            go_wp2
            go_round
            case rel => exact ⟨k + 1, 1, by omega, by go_num, rfl, Lib.hid (by unfold At5; decide)⟩
            case measure => simp [intOf]; omega
          · go_wp2_with fail
            refine (after_at (a := 3) (f := 0) (by decide) _ R.out).mono ?_
            rintro en w' ⟨rfl, rfl⟩
            go_wp2
            go_round
            case rel => exact ⟨k + 1, 3, by omega, by go_num, rfl, Lib.hid (by unfold At5; decide)⟩
            case measure => simp [intOf]; omega
          · go_wp2_with fail
            refine (after_at (a := 4) (f := 0) (by decide) _ R.out).mono ?_
            rintro en w' ⟨rfl, rfl⟩
            go_wp2
            go_round
            case rel => exact ⟨k + 1, 4, by omega, by go_num, rfl, Lib.hid (by unfold At5; decide)⟩
            case measure => simp [intOf]; omega
      · clear S
        cases ho : okB x with
        | false =>
          have E := Lib.hid (aft_arg (s := 2) (e := x) (by rw [ho, Bool.and_false]))
          clear ho
          go_wp2_with fail
          refine (after_at E.out _ R.out).mono ?_
          rintro en w' ⟨rfl, rfl⟩
          go_wp2
          go_round
          case rel => exact ⟨k + 1, 2, by omega, by go_num, rfl, Lib.hid (by unfold At5; decide)⟩
          case measure => simp [intOf]; omega
        | true =>
          have h5 := five ho
          clear ho
          rcases h5 with rfl | rfl | rfl | rfl | rfl
          · go_wp2_with fail
            refine (after_at (a := 0) (f := 8) (by decide) _ R.out).mono ?_
            rintro en w' ⟨rfl, rfl⟩
            go_wp2
            go_round
            case rel => exact ⟨k + 1, 2, by omega, by go_num, rfl, Lib.hid (by unfold At5; decide)⟩
            case measure => simp [intOf]; omega
          · go_wp2_with fail
            refine (after_at (a := 2) (f := 0) (by decide) _ R.out).mono ?_
            rintro en w' ⟨rfl, rfl⟩
            go_wp2
            go_round
            case rel => exact ⟨k + 1, 2, by omega, by go_num, rfl, Lib.hid (by unfold At5; decide)⟩
            case measure => simp [intOf]; omega
          · go_wp2_with fail
            refine (after_at (a := 1) (f := 0) (by decide) _ R.out).mono ?_
            rintro en w' ⟨rfl, rfl⟩
            go_wp2
            go_round
            case rel => exact ⟨k + 1, 1, by omega, by go_num, rfl, Lib.hid (by unfold At5; decide)⟩
            case measure => simp [intOf]; omega
          · go_wp2_with fail
            refine (after_at (a := 3) (f := 0) (by decide) _ R.out).mono ?_
            rintro en w' ⟨rfl, rfl⟩
            go_wp2
            go_round
            case rel => exact ⟨k + 1, 3, by omega, by go_num, rfl, Lib.hid (by unfold At5; decide)⟩
            case measure => simp [intOf]; omega
          · go_wp2_with fail
            refine (after_at (a := 0) (f := 8) (by decide) _ R.out).mono ?_
            rintro en w' ⟨rfl, rfl⟩
            go_wp2
            go_round
            case rel => exact ⟨k + 1, 2, by omega, by go_num, rfl, Lib.hid (by unfold At5; decide)⟩
            case measure => simp [intOf]; omega
      · clear S
        cases ho : okB x with
        | false =>
          have E := Lib.hid (aft_arg (s := 3) (e := x) (by rw [ho, Bool.and_false]))
          clear ho
          go_wp2_with fail
          refine (after_at E.out _ R.out).mono ?_
          rintro en w' ⟨rfl, rfl⟩
          go_wp2
          go_round
          case rel => exact ⟨k + 1, 3, by omega, by go_num, rfl, Lib.hid (by unfold At5; decide)⟩
          case measure => simp [intOf]; omega
        | true =>
          have h5 := five ho
          clear ho
          rcases h5 with rfl | rfl | rfl | rfl | rfl
          · go_wp2_with fail
            refine (after_at (a := 0) (f := 8) (by decide) _ R.out).mono ?_
            rintro en w' ⟨rfl, rfl⟩
            go_wp2
            go_round
            case rel => exact ⟨k + 1, 3, by omega, by go_num, rfl, Lib.hid (by unfold At5; decide)⟩
            case measure => simp [intOf]; omega
          · go_wp2_with fail
            refine (after_at (a := 0) (f := 8) (by decide) _ R.out).mono ?_
            rintro en w' ⟨rfl, rfl⟩
            go_wp2
            go_round
            case rel => exact ⟨k + 1, 3, by omega, by go_num, rfl, Lib.hid (by unfold At5; decide)⟩
            case measure => simp [intOf]; omega
          · go_wp2_with fail
            refine (after_at (a := 0) (f := 8) (by decide) _ R.out).mono ?_
            rintro en w' ⟨rfl, rfl⟩
            go_wp2
            go_round
            case rel => exact ⟨k + 1, 3, by omega, by go_num, rfl, Lib.hid (by unfold At5; decide)⟩
            case measure => simp [intOf]; omega
          · go_wp2_with fail
            refine (after_at (a := 0) (f := 8) (by decide) _ R.out).mono ?_
            rintro en w' ⟨rfl, rfl⟩
            go_wp2
            go_round
            case rel => exact ⟨k + 1, 3, by omega, by go_num, rfl, Lib.hid (by unfold At5; decide)⟩
            case measure => simp [intOf]; omega
          · go_wp2_with fail
            refine (after_at (a := 0) (f := 8) (by decide) _ R.out).mono ?_
            rintro en w' ⟨rfl, rfl⟩
            go_wp2
            go_round
            case rel => exact ⟨k + 1, 3, by omega, by go_num, rfl, Lib.hid (by unfold At5; decide)⟩
            case measure => simp [intOf]; omega
      · clear S
        cases ho : okB x with
        | false =>
          have E := Lib.hid (aft_arg (s := 4) (e := x) (by rw [ho, Bool.and_false]))
          clear ho
          go_wp2_with fail
          refine (after_at E.out _ R.out).mono ?_
          rintro en w' ⟨rfl, rfl⟩
          go_wp2
          go_round
          case rel => exact ⟨k + 1, 4, by omega, by go_num, rfl, Lib.hid (by unfold At5; decide)⟩
          case measure => simp [intOf]; omega
        | true =>
          have h5 := five ho
          clear ho
          rcases h5 with rfl | rfl | rfl | rfl | rfl
          · go_wp2_with fail
            refine (after_at (a := 0) (f := 8) (by decide) _ R.out).mono ?_
            rintro en w' ⟨rfl, rfl⟩
            go_wp2
            go_round
            case rel => exact ⟨k + 1, 4, by omega, by go_num, rfl, Lib.hid (by unfold At5; decide)⟩
            case measure => simp [intOf]; omega
          · go_wp2_with fail
            refine (after_at (a := 0) (f := 8) (by decide) _ R.out).mono ?_
            rintro en w' ⟨rfl, rfl⟩
            go_wp2
            go_round
            case rel => exact ⟨k + 1, 4, by omega, by go_num, rfl, Lib.hid (by unfold At5; decide)⟩
            case measure => simp [intOf]; omega
          · go_wp2_with fail
            refine (after_at (a := 0) (f := 8) (by decide) _ R.out).mono ?_
            rintro en w' ⟨rfl, rfl⟩
            go_wp2
            go_round
            case rel => exact ⟨k + 1, 4, by omega, by go_num, rfl, Lib.hid (by unfold At5; decide)⟩
            case measure => simp [intOf]; omega
          · go_wp2_with fail
            refine (after_at (a := 0) (f := 8) (by decide) _ R.out).mono ?_
            rintro en w' ⟨rfl, rfl⟩
            go_wp2
            go_round
            case rel => exact ⟨k + 1, 4, by omega, by go_num, rfl, Lib.hid (by unfold At5; decide)⟩
            case measure => simp [intOf]; omega
          · go_wp2_with fail
            refine (after_at (a := 0) (f := 8) (by decide) _ R.out).mono ?_
            rintro en w' ⟨rfl, rfl⟩
            go_wp2
            go_round
            case rel => exact ⟨k + 1, 4, by omega, by go_num, rfl, Lib.hid (by unfold At5; decide)⟩
            case measure => simp [intOf]; omega
    · rcases S.out with rfl | rfl | rfl | rfl | rfl
      · clear S
        go_wp2_with fail
        refine (alive_any _ R.out).mono ?_
        rintro en w' ⟨rfl, rfl⟩
        go_wp2_with fail
        refine (final_at (b := false) (by decide) _ R.out).mono ?_
        rintro en w' ⟨rfl, rfl⟩
        go_wp2
        go_ret
        exact ⟨rfl, Below.refl _ _⟩
      · clear S
        go_wp2_with fail
        refine (alive_any _ R.out).mono ?_
        rintro en w' ⟨rfl, rfl⟩
        go_wp2_with fail
        refine (final_at (b := false) (by decide) _ R.out).mono ?_
        rintro en w' ⟨rfl, rfl⟩
        go_wp2
        go_ret
        exact ⟨rfl, Below.refl _ _⟩
      · clear S
        go_wp2_with fail
        refine (alive_any _ R.out).mono ?_
        rintro en w' ⟨rfl, rfl⟩
        go_wp2_with fail
        refine (final_at (b := false) (by decide) _ R.out).mono ?_
        rintro en w' ⟨rfl, rfl⟩
        go_wp2
        go_ret
        exact ⟨rfl, Below.refl _ _⟩
      · clear S
        go_wp2_with fail
        refine (alive_any _ R.out).mono ?_
        rintro en w' ⟨rfl, rfl⟩
        go_wp2_with fail
        refine (final_at (b := true) (by decide) _ R.out).mono ?_
        rintro en w' ⟨rfl, rfl⟩
        go_wp2
        go_ret
        exact ⟨rfl, Below.refl _ _⟩
      · clear S
        go_wp2_with fail
        refine (alive_any _ R.out).mono ?_
        rintro en w' ⟨rfl, rfl⟩
        go_wp2_with fail
        refine (final_at (b := true) (by decide) _ R.out).mono ?_
        rintro en w' ⟨rfl, rfl⟩
        go_wp2
        go_ret
        exact ⟨rfl, Below.refl _ _⟩
/-- StatusEnds, as the law's last text wants it. -/
theorem ends_in (p : Option Addr) (len cap : Nat) (zs : List Int) (w : World) (h : IsRow .i64 w p len cap zs) (hr : Ready w) :
    Calls Tryd.prog 4 #[.slice p len cap] w fun en w' => en = .returned (.bool true) ∧ Below w.heap.size w w' := by
  obtain ⟨he, hm⟩ := evs_row h
  by_cases hl : len ≤ 200
  · exact ends_short p len cap w hl he hr
  · exact ends_long p len cap w (by omega) hm hr
end Su
end Go.Proofs.YtconmgjogcfcbaaDoor
