/- Walks over package series' New, All, Clone, Put. Conditions: a series in order. -/
import Derived.Test.YtfmnbmjfkplieaaSeP5
import Derived.Deep.RegionHeld3
namespace Go.Proofs.Ytfmnbmjfkplieaa
open Go.RowKit

namespace Se
set_option maxRecDepth 100000 in
set_option maxHeartbeats 2000000 in
theorem pnew_no (wo ga : Int) (w : World) (hm : mayB wo ga = false) : Calls Try.prog 19 #[.int .i64 wo, .int .i64 ga] w fun e w' => e = .returned (.tuple #[.pointer none, .int .i64 1]) ∧ Below w.heap.size w w' := by
  have E : mayB wo ga = (tenB wo && belB ga 1048576) := by
    rw [Bool.eq_iff_iff]
    simp [mayB, tenB, belB]
    omega
  rw [E] at hm
  have T := Lib.hid (fun W => ten_any wo W)
  have G := Lib.hid (fun W => bel_any ga 1048576 W)
  clear E
  generalize tenB wo = t at *
  generalize belB ga 1048576 = u at *
  cases t
  · clear hm
    go_enter Try.func19, Try.ntmps19
    go_wp2_with fail
    refine (T.out _).mono ?_
    rintro e w1 ⟨rfl, rfl⟩
    go_wp2
    go_ret2
    exact ⟨rfl, Below.refl _ _⟩
  · cases u
    · clear hm
      go_enter Try.func19, Try.ntmps19
      go_wp2_with fail
      refine (T.out _).mono ?_
      rintro e w1 ⟨rfl, rfl⟩
      go_wp2_with fail
      refine (G.out _).mono ?_
      rintro e w2 ⟨rfl, rfl⟩
      go_wp2
      go_ret2
      exact ⟨rfl, Below.refl _ _⟩
    · cases hm
set_option maxRecDepth 100000 in
set_option maxHeartbeats 2000000 in
theorem pnew_yes (wo ga : Int) (w : World) (hm : mayB wo ga = true) : Calls Try.prog 19 #[.int .i64 wo, .int .i64 ga] w fun e w' =>
    e = .returned (.tuple #[.pointer (some ⟨w.heap.size, 0, none⟩), .int .i64 0]) ∧ PSer w' w.heap.size w.heap.size (.slice none 0 0) wo ga [] ∧ Below w.heap.size w w' := by
  have E : mayB wo ga = (tenB wo && belB ga 1048576) := by
    rw [Bool.eq_iff_iff]
    simp [mayB, tenB, belB]
    omega
  rw [E] at hm
  obtain ⟨h1, h2⟩ := (Bool.and_eq_true _ _).mp hm
  have T := Lib.hid (fun W => ten_any wo W)
  have G := Lib.hid (fun W => bel_any ga 1048576 W)
  rw [h1] at T
  rw [h2] at G
  clear E hm h1 h2
  go_enter Try.func19, Try.ntmps19
  go_wp2_with fail
  refine (T.out _).mono ?_
  rintro e w1 ⟨rfl, rfl⟩
  go_wp2_with fail
  refine (G.out _).mono ?_
  rintro e w2 ⟨rfl, rfl⟩
  go_wp2
  go_ret2
  exact ⟨rfl, ⟨Nat.le_refl _, Lies.new _ _ _, World.ownsRow_nil _ _ _ _⟩, alloc_below _ _⟩
theorem rcells_one (x : Rd) : ∀ u ∈ rcells x, u.oneCell' = true := by
  intro u hu
  simp only [rcells, List.mem_cons, List.not_mem_nil, or_false] at hu
  rcases hu with rfl | rfl | rfl <;> rfl
set_option maxRecDepth 100000 in
set_option maxHeartbeats 2000000 in
theorem pall_any (B h : Nat) (v : Value) (wo ga : Int) (S : List Rd) (w : World) (hp : PSer w B h v wo ga S) (hL : S.length ≤ 1000000) :
    Calls Try.prog 16 #[.pointer (some ⟨h, 0, none⟩)] w fun e w' => ∃ v, e = .returned v ∧ w'.ownsRow w.heap.size 37 3 v S.length (S.flatMap rcells) ∧ Below w.heap.size w w' := by
  obtain ⟨q, c, rfl, _, hR⟩ := rw_own rcells_len hp.2.2
  have C := Lib.hid (Rd.clone_any rcells_len rcells_one q S.length c S w hR hL)
  have k2 : w.cell? ⟨h, 2, none⟩ = some (.slice q S.length c) := hp.2.1.cell 2
  clear hp hR
  go_enter Try.func16, Try.ntmps16
  go_wp2_with fail
  refine C.out.mono ?_
  rintro e w1 ⟨v, rfl, ho, hb⟩
  have O := Lib.hid ho
  have Bb := Lib.hid hb
  clear ho hb C
  go_wp2
  go_ret
  exact ⟨v, rfl, O.out, Bb.out⟩
set_option maxRecDepth 100000 in
set_option maxHeartbeats 4000000 in
theorem pclone_any (B h : Nat) (v : Value) (wo ga : Int) (S : List Rd) (w : World) (hp : PSer w B h v wo ga S) (hL : S.length ≤ 1000000) :
    Calls Try.prog 30 #[.pointer (some ⟨h, 0, none⟩)] w fun e w' => ∃ h' v', e = .returned (.pointer (some ⟨h', 0, none⟩)) ∧ PSer w' w.heap.size h' v' wo ga S ∧ Below w.heap.size w w' := by
  have C := Lib.hid (pall_any B h v wo ga S w.drew (show PSer w.drew B h v wo ga S from hp) hL)
  have HB := Lib.hid (show Lies w.drew h 63 #[.int .i64 wo, .int .i64 ga, v] from hp.2.1)
  have lh := hp.2.1.lt
  have k0 : w.drew.cell? ⟨h, 0, none⟩ = some (.int .i64 wo) := HB.out.cell 0
  have k1 : w.drew.cell? ⟨h, 1, none⟩ = some (.int .i64 ga) := HB.out.cell 1
  clear hp
  go_enter Try.func30, Try.ntmps30
  go_wp2_with fail
  go_region_held3 (fun w' => w'.cell? ⟨h, 0, none⟩ = some (.int .i64 wo) ∧ w'.cell? ⟨h, 1, none⟩ = some (.int .i64 ga))
    (first | go_keep | exact ⟨k0, k1⟩ | exact ⟨d0, d1⟩)
    ((refine C.out.mono ?_; rintro e w1 ⟨v1, rfl, ho, hb⟩; obtain ⟨q1, c1, rfl⟩ := own_slice ho; have fb := HB.out.below hb lh; have d0 : w1.cell? ⟨h, 0, none⟩ = some (.int .i64 wo) := fb.cell 0; have d1 : w1.cell? ⟨h, 1, none⟩ = some (.int .i64 ga) := fb.cell 1))
  all_goals
    go_wp2
    go_ret
    have hsz := hb.size
    exact ⟨_, _, rfl, ⟨hsz, Lies.new _ _ _, ho.alloc _⟩, (((Below.refl _ w).drew).trans hb).alloc hsz _⟩
end Se
end Go.Proofs.Ytfmnbmjfkplieaa
