/- Walks over the document's answer of layer 6: the air of a minute, the next one. No condition but those written. -/
import Derived.Test.YthlpbkkglaaofaaSe4
namespace Go.Proofs.Ythlpbkkglaaofaa
open Go.RowKit

namespace Se
theorem cnt_mem {ga m : Int} {L : List Rd} {y : Rd} (h : cnt ga L m = some y) : y ∈ L ∧ y.min ≤ m ∧ m - y.min ≤ ga ∧ ∀ x ∈ L, x.min ≤ m → ¬ lt y x := by
  unfold cnt at h
  rcases lastL_spec L m with ⟨h1, _⟩ | ⟨z, h1, h2, h3, h4⟩
  · rw [h1] at h
    cases h
  · rw [h1] at h
    simp only [cntOf] at h
    split at h
    · cases h
    · cases h
      exact ⟨h2, h3, by omega, h4⟩
theorem air_none {wo ga m : Int} {L : List Rd} (h : cnt ga L m = none) : air wo ga L m = wo := by
  unfold air
  rw [h]
theorem air_some {wo ga m : Int} {L : List Rd} {y : Rd} (h : cnt ga L m = some y) : air wo ga L m = y.ten := by
  unfold air
  rw [h]
set_option maxRecDepth 100000 in
set_option maxHeartbeats 2000000 in
theorem rat_any (B g : Nat) (v : Value) (wo ga : Int) (L : List Rd) (m : Int) (w : World) (h : RSer w B g v wo ga L) (hR : ∀ x ∈ L, rightB x = true) (hg : 0 ≤ ga ∧ ga ≤ 1048575) (hm : m ≤ 9223372036854775807) (hL : L.length ≤ 1000000) :
    Calls Try.prog 16 #[.pointer (some ⟨g, 0, none⟩), .int .i64 m] w fun e w' => e = .returned (.int .i64 (air wo ga L m)) ∧ Below w.heap.size w w' := by
  have C := Lib.hid (rlast_any B g v wo ga L m w h hR hg hm hL)
  have H := Lib.hid h
  clear h hR
  rcases hc : cnt ga L m with _ | y
  · have E := Lib.hid (air_none (wo := wo) hc)
    rw [hc] at C
    unfold outOf rval zero at C
    simp only [Option.getD_none, Option.isSome_none] at C
    clear hc
    go_enter Try.func16, Try.ntmps16
    go_wp2_with fail
    refine C.out.mono ?_
    rintro e w1 ⟨rfl, hb⟩
    have c0 : w1.cell? ⟨g, 0, none⟩ = some (.int .i64 wo) := (H.out.below hb).2.1.cell 0
    have lg := (H.out.below hb).2.1.lt
    have F : ∀ o i, (w1.alloc o).cell? ⟨g, i, none⟩ = w1.cell? ⟨g, i, none⟩ := fun o i => (alloc_below w1 o).cell (p := ⟨g, i, none⟩) lg
    have HB := Lib.hid (hb.alloc hb.size (.cells #[.int .i64 0, .int .i64 0, .int .i64 0] 36))
    clear hb lg
    go_wp2
    go_ret
    exact ⟨by rw [E.out]; rfl, HB.out⟩
  · have E := Lib.hid (air_some (wo := wo) hc)
    rw [hc] at C
    unfold outOf rval at C
    simp only [Option.getD_some, Option.isSome_some] at C
    clear hc
    obtain ⟨ym, ys, yt⟩ := y
    go_enter Try.func16, Try.ntmps16
    go_wp2_with fail
    refine C.out.mono ?_
    rintro e w1 ⟨rfl, hb⟩
    have HB := Lib.hid (hb.alloc hb.size (.cells #[.int .i64 ym, .int .i64 ys, .int .i64 yt] 36))
    clear hb
    go_wp2
    go_ret
    exact ⟨by rw [E.out]; rfl, HB.out⟩
theorem next_next {L : List Rd} {k : Nat} {x : Rd} {m : Int} (hx : L[k]? = some x) : nextL (L.take (k + 1)) m = nextStep m (nextL (L.take k) m) x := by
  rw [List.take_add_one, hx, Option.toList_some, nextL_snoc]
theorem step_yes {m n : Int} {x : Rd} (h : m < x.min) (h2 : n < 0 ∨ x.min < n) : nextStep m n x = x.min := by
  unfold nextStep
  rw [if_pos ⟨h, h2⟩]
theorem step_no {m n : Int} {x : Rd} (h : ¬ (m < x.min ∧ (n < 0 ∨ x.min < n))) : nextStep m n x = n := by
  unfold nextStep
  rw [if_neg h]
theorem next_none {ga m : Int} {L : List Rd} (h : cnt ga L m = none) : next ga L m = nextL L m := by
  unfold next
  rw [h]
theorem next_some {ga m : Int} {L : List Rd} {y : Rd} (h : cnt ga L m = some y) : next ga L m = if nextL L m < 0 ∨ y.min + ga + 1 < nextL L m then y.min + ga + 1 else nextL L m := by
  unfold next
  rw [h]
set_option maxRecDepth 100000 in
set_option maxHeartbeats 4000000 in
theorem rnext_any (B g : Nat) (v : Value) (wo ga : Int) (L : List Rd) (m : Int) (w : World) (h : RSer w B g v wo ga L) (hR : ∀ x ∈ L, rightB x = true) (hg : 0 ≤ ga ∧ ga ≤ 1048575) (hm : m ≤ 9223372036854775807) (hL : L.length ≤ 1000000) :
    Calls Try.prog 18 #[.pointer (some ⟨g, 0, none⟩), .int .i64 m] w fun e w' => e = .returned (.int .i64 (next ga L m)) ∧ Below w.heap.size w w' := by
  have C := Lib.hid (rlast_any B g v wo ga L m w h hR hg hm hL)
  obtain ⟨q, d, rfl⟩ := own_slice h.2.2
  have H := Lib.hid h
  have HR := Lib.hid hR
  have hL' : (L.length : Int) ≤ 1000000 := by omega
  have c2 : w.cell? ⟨g, 2, none⟩ = some (.slice q L.length d) := h.2.1.cell 2
  obtain ⟨g0, g1⟩ := hg
  clear h hR
  go_enter Try.func18, Try.ntmps18
  go_wp2_with fail
  go_loop [5, 6] (fun n i => ∃ (k : Nat) (u : Int), k ≤ L.length ∧ i = .int .i64 k ∧ n = .int .i64 u ∧ Hid (u = nextL (L.take k) m)) (fun _ i => L.length - (intOf i).toNat)
  case atStart => exact ⟨0, -1, Nat.zero_le _, rfl, rfl, Lib.hid rfl⟩
  case round =>
    obtain ⟨k, u, hk, rfl, rfl, HU⟩ := hrel
    by_cases hlt : k < L.length
    · obtain ⟨x, hx⟩ : ∃ x, L[k]? = some x := ⟨_, List.getElem?_eq_getElem hlt⟩
      obtain ⟨b, rfl, _, hnc, e0, e1, e2⟩ := rser_at H.out hx
      have hk3 : (k : Int) < (L.length : Int) := by omega
      have HX := Lib.hid (next_next (m := m) hx)
      clear hx
      by_cases h1 : m < x.min
      · by_cases h2 : u < 0
        · have HS := Lib.hid (show x.min = nextL (L.take (k + 1)) m by rw [HX.out, ← HU.out, step_yes h1 (.inl h2)])
          go_wp2
          go_round
          case rel => exact ⟨k + 1, x.min, by omega, by go_num, rfl, HS⟩
          case measure => simp [intOf]; omega
        · by_cases h3 : x.min < u
          · have HS := Lib.hid (show x.min = nextL (L.take (k + 1)) m by rw [HX.out, ← HU.out, step_yes h1 (.inr h3)])
            go_wp2
            go_round
            case rel => exact ⟨k + 1, x.min, by omega, by go_num, rfl, HS⟩
            case measure => simp [intOf]; omega
          · have HS := Lib.hid (show u = nextL (L.take (k + 1)) m by rw [HX.out, ← HU.out, step_no (by omega)])
            go_wp2
            go_round
            case rel => exact ⟨k + 1, u, by omega, by go_num, rfl, HS⟩
            case measure => simp [intOf]; omega
      · have HS := Lib.hid (show u = nextL (L.take (k + 1)) m by rw [HX.out, ← HU.out, step_no (by omega)])
        go_wp2
        go_round
        case rel => exact ⟨k + 1, u, by omega, by go_num, rfl, HS⟩
        case measure => simp [intOf]; omega
    · obtain rfl : k = L.length := by omega
      have HN := Lib.hid (show nextL L m = u by rw [HU.out, List.take_of_length_le (Nat.le_refl _)])
      rcases hc : cnt ga L m with _ | y
      · have E := Lib.hid (show next ga L m = u by rw [next_none hc]; exact HN.out)
        rw [hc] at C
        unfold outOf rval zero at C
        simp only [Option.getD_none, Option.isSome_none] at C
        clear hc
        go_wp2_with fail
        refine C.out.mono ?_
        rintro e w1 ⟨rfl, hb⟩
        have HB := Lib.hid (hb.alloc hb.size (.cells #[.int .i64 0, .int .i64 0, .int .i64 0] 36))
        clear hb
        go_wp2_with fail
        go_quiet (fail)
        go_wp2
        go_ret
        exact ⟨by rw [E.out]; rfl, below_drewN HB.out _⟩
      · have E := Lib.hid (show next ga L m = if u < 0 ∨ y.min + ga + 1 < u then y.min + ga + 1 else u by rw [next_some hc, HN.out])
        have hmem := cnt_mem hc
        have hb1 := right_of (HR.out y hmem.1)
        rw [hc] at C
        unfold outOf rval at C
        simp only [Option.getD_some, Option.isSome_some] at C
        clear hc hmem
        obtain ⟨ym, ys, yt⟩ := y
        simp only at hb1 E
        obtain ⟨_, _, y0, y1, _, _⟩ := hb1
        have q1 : IntKind.i64.wrap (ym + ga) = ym + ga := IntWalk.i64_in _ (by omega)
        have q2 : IntKind.i64.wrap (ym + ga + 1) = ym + ga + 1 := IntWalk.i64_in _ (by omega)
        by_cases hu : u < 0
        · have E2 := Lib.hid (show next ga L m = ym + ga + 1 by rw [E.out, if_pos (.inl hu)])
          go_wp2_with fail
          refine C.out.mono ?_
          rintro e w1 ⟨rfl, hb⟩
          have c1 : w1.cell? ⟨g, 1, none⟩ = some (.int .i64 ga) := (H.out.below hb).2.1.cell 1
          have lg := (H.out.below hb).2.1.lt
          have F : ∀ o i, (w1.alloc o).cell? ⟨g, i, none⟩ = w1.cell? ⟨g, i, none⟩ := fun o i => (alloc_below w1 o).cell (p := ⟨g, i, none⟩) lg
          have HB := Lib.hid (hb.alloc hb.size (.cells #[.int .i64 ym, .int .i64 ys, .int .i64 yt] 36))
          clear hb lg
          go_wp2_with fail
          go_quiet (fail)
          go_wp2_with fail
          go_quiet (fail)
          go_wp2
          go_ret
          exact ⟨by rw [E2.out]; rfl, below_drewN (below_drewN HB.out _) _⟩
        · by_cases hv : ym + ga + 1 < u
          · have E2 := Lib.hid (show next ga L m = ym + ga + 1 by rw [E.out, if_pos (.inr hv)])
            go_wp2_with fail
            refine C.out.mono ?_
            rintro e w1 ⟨rfl, hb⟩
            have c1 : w1.cell? ⟨g, 1, none⟩ = some (.int .i64 ga) := (H.out.below hb).2.1.cell 1
            have lg := (H.out.below hb).2.1.lt
            have F : ∀ o i, (w1.alloc o).cell? ⟨g, i, none⟩ = w1.cell? ⟨g, i, none⟩ := fun o i => (alloc_below w1 o).cell (p := ⟨g, i, none⟩) lg
            have HB := Lib.hid (hb.alloc hb.size (.cells #[.int .i64 ym, .int .i64 ys, .int .i64 yt] 36))
            clear hb lg
            go_wp2_with fail
            go_quiet (fail)
            go_wp2_with fail
            go_quiet (fail)
            go_wp2
            go_ret
            exact ⟨by rw [E2.out]; rfl, below_drewN (below_drewN HB.out _) _⟩
          · have E2 := Lib.hid (show next ga L m = u by rw [E.out, if_neg (by omega)])
            go_wp2_with fail
            refine C.out.mono ?_
            rintro e w1 ⟨rfl, hb⟩
            have c1 : w1.cell? ⟨g, 1, none⟩ = some (.int .i64 ga) := (H.out.below hb).2.1.cell 1
            have lg := (H.out.below hb).2.1.lt
            have F : ∀ o i, (w1.alloc o).cell? ⟨g, i, none⟩ = w1.cell? ⟨g, i, none⟩ := fun o i => (alloc_below w1 o).cell (p := ⟨g, i, none⟩) lg
            have HB := Lib.hid (hb.alloc hb.size (.cells #[.int .i64 ym, .int .i64 ys, .int .i64 yt] 36))
            clear hb lg
            go_wp2_with fail
            go_quiet (fail)
            go_wp2
            go_ret
            exact ⟨by rw [E2.out]; rfl, below_drewN HB.out _⟩
end Se
end Go.Proofs.Ythlpbkkglaaofaa
