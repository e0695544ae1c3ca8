/- Walks over the document's answer of layer 6: the air of a minute, the next one. No condition but those written. -/
import Derived.Test.YtfmnbmjfkplieaaSe4
namespace Go.Proofs.Ytfmnbmjfkplieaa
open Go.RowKit

namespace Se
theorem cnt_mem {ga m : Int} {L : List Rd} {y : Rd} (h : cnt ga L m = some y) : y ∈ L ∧ y.min ≤ m ∧ m - y.min ≤ ga ∧ ∀ x ∈ L, x.min ≤ m → ¬ lt y x := by
  unfold cnt at h
  rcases lastL_spec L m with ⟨h1, _⟩ | ⟨z, h1, h2, h3, h4⟩
  · rw [h1] at h
    cases h
  · rw [h1] at h
    simp only [cntOf] at h
    split at h
    · cases h
    · cases h
      exact ⟨h2, h3, by omega, h4⟩
theorem air_none {wo ga m : Int} {L : List Rd} (h : cnt ga L m = none) : air wo ga L m = wo := by
  unfold air
  rw [h]
theorem air_some {wo ga m : Int} {L : List Rd} {y : Rd} (h : cnt ga L m = some y) : air wo ga L m = y.ten := by
  unfold air
  rw [h]
set_option maxRecDepth 100000 in
set_option maxHeartbeats 2000000 in
theorem rat_any (B g : Nat) (v : Value) (wo ga : Int) (L : List Rd) (m : Int) (w : World) (h : RSer w B g v wo ga L) (hR : ∀ x ∈ L, rightB x = true) (hg : 0 ≤ ga ∧ ga ≤ 1048575) (hm : m ≤ 9223372036854775807) (hL : L.length ≤ 1000000) :
    Calls Try.prog 47 #[.pointer (some ⟨g, 0, none⟩), .int .i64 m] w fun e w' => e = .returned (.int .i64 (air wo ga L m)) ∧ Below w.heap.size w w' := by
  have C := Lib.hid (rlast_any B g v wo ga L m w h hR hg hm hL)
  have H := Lib.hid h
  clear h hR
  rcases hc : cnt ga L m with _ | y
  · have E := Lib.hid (air_none (wo := wo) hc)
    rw [hc] at C
    unfold outOf rval zero at C
    simp only [Option.getD_none, Option.isSome_none] at C
    clear hc
    go_enter Try.func47, Try.ntmps47
    go_wp2_with fail
    refine C.out.mono ?_
    rintro e w1 ⟨rfl, hb⟩
    have c0 : w1.cell? ⟨g, 0, none⟩ = some (.int .i64 wo) := (H.out.below hb).2.1.cell 0
    have lg := (H.out.below hb).2.1.lt
    have F : ∀ o i, (w1.alloc o).cell? ⟨g, i, none⟩ = w1.cell? ⟨g, i, none⟩ := fun o i => (alloc_below w1 o).cell (p := ⟨g, i, none⟩) lg
    have HB := Lib.hid (hb.alloc hb.size (.cells #[.int .i64 0, .int .i64 0, .int .i64 0] 37))
    clear hb lg
    go_wp2
    go_ret
    exact ⟨by rw [E.out]; rfl, HB.out⟩
  · have E := Lib.hid (air_some (wo := wo) hc)
    rw [hc] at C
    unfold outOf rval at C
    simp only [Option.getD_some, Option.isSome_some] at C
    clear hc
    obtain ⟨ym, ys, yt⟩ := y
    go_enter Try.func47, Try.ntmps47
    go_wp2_with fail
    refine C.out.mono ?_
    rintro e w1 ⟨rfl, hb⟩
    have HB := Lib.hid (hb.alloc hb.size (.cells #[.int .i64 ym, .int .i64 ys, .int .i64 yt] 37))
    clear hb
    go_wp2
    go_ret
    exact ⟨by rw [E.out]; rfl, HB.out⟩
theorem next_next {L : List Rd} {k : Nat} {x : Rd} {m : Int} (hx : L[k]? = some x) : nextL (L.take (k + 1)) m = nextStep m (nextL (L.take k) m) x := by
  rw [List.take_add_one, hx, Option.toList_some, nextL_snoc]
theorem step_yes {m n : Int} {x : Rd} (h : m < x.min) (h2 : n < 0 ∨ x.min < n) : nextStep m n x = x.min := by
  unfold nextStep
  rw [if_pos ⟨h, h2⟩]
theorem step_no {m n : Int} {x : Rd} (h : ¬ (m < x.min ∧ (n < 0 ∨ x.min < n))) : nextStep m n x = n := by
  unfold nextStep
  rw [if_neg h]
theorem next_none {ga m : Int} {L : List Rd} (h : cnt ga L m = none) : next ga L m = nextL L m := by
  unfold next
  rw [h]
theorem next_some {ga m : Int} {L : List Rd} {y : Rd} (h : cnt ga L m = some y) : next ga L m = if nextL L m < 0 ∨ y.min + ga + 1 < nextL L m then y.min + ga + 1 else nextL L m := by
  unfold next
  rw [h]
end Se
end Go.Proofs.Ytfmnbmjfkplieaa
