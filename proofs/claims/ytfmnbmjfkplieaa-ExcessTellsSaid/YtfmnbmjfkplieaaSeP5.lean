/- The walk over package series' Next. Conditions: a series in order. -/
import Derived.Test.YtfmnbmjfkplieaaSeP4
namespace Go.Proofs.Ytfmnbmjfkplieaa
open Go.RowKit

namespace Se
/-- The lesser one of a minute when it falls silent and one of a reading; below 0: none. -/
def comb (n l : Int) : Int := if l < 0 then n else if n = -1 ∨ l < n then l else n
theorem comb_neg {l : Int} (h : 0 ≤ l) : comb (-1) l = l := by
  unfold comb
  rw [if_neg (by omega), if_pos (Or.inl rfl)]
theorem next_quiet {ga m : Int} {S : List Rd} (h0 : ∀ x ∈ S, 0 ≤ x.min) (hc : cnt ga S m = none) : next ga S m = comb (-1) (nextL S m) := by
  unfold next
  rw [hc]
  simp only
  rcases nextL_spec S m h0 with ⟨h1, _⟩ | ⟨_, h2, _⟩
  · rw [h1]
    rfl
  · rw [comb_neg h2]
theorem next_loud {ga m : Int} {S : List Rd} {y : Rd} (h0 : 0 ≤ y.min) (hg : 0 ≤ ga) (hc : cnt ga S m = some y) : next ga S m = comb (y.min + ga + 1) (nextL S m) := by
  unfold next comb
  rw [hc]
  simp only
  by_cases h1 : nextL S m < 0
  · rw [if_pos (.inl h1), if_pos h1]
  · rw [if_neg h1]
    by_cases h2 : y.min + ga + 1 < nextL S m
    · rw [if_pos (.inr h2), if_neg (by omega)]
    · rw [if_neg (by omega)]
      by_cases h3 : nextL S m < y.min + ga + 1
      · rw [if_pos (.inr h3)]
      · rw [if_neg (by omega)]
        omega
set_option maxRecDepth 100000 in
set_option maxHeartbeats 8000000 in
theorem pnext_any (B h : Nat) (v : Value) (wo ga : Int) (S : List Rd) (m : Int) (w : World) (hp : PSer w B h v wo ga S) (hs : Sorted S) (hr : ∀ x ∈ S, rightB x = true) (hg : 0 ≤ ga ∧ ga ≤ 1048575) (hL : S.length ≤ 1000000) (m1 : m ≤ 9223372036854775807) :
    Calls Try.prog 50 #[.pointer (some ⟨h, 0, none⟩), .int .i64 m] w fun e w' => e = .returned (.int .i64 (next ga S m)) ∧ Below w.heap.size w w' := by
  have HU := Lib.hid (uptoN_any B h v wo ga S m w hp hs hL)
  have HP := Lib.hid hp
  have HS := Lib.hid hs
  have HR := Lib.hid hr
  have H0 := Lib.hid (show ∀ x ∈ S, 0 ≤ x.min from fun x hx => (right_of (hr x hx)).2.2.1)
  obtain ⟨g0, g1⟩ := hg
  clear hp hs hr
  go_enter Try.func50, Try.ntmps50
  go_wp2_with fail
  refine HU.out.mono ?_
  rintro e w1 ⟨n, hu, rfl, hb⟩
  have U := Lib.hid hu
  have B1 := Lib.hid hb
  clear hu hb HU
  go_wp2_with fail
  refine (silent_any B h v wo ga S m n w1 (HP.out.below B1.out) HS.out HR.out hL U.out m1).mono ?_
  rintro e w2 ⟨rfl, hb⟩
  have B2 := Lib.hid (then_ B1.out hb)
  have P2 := Lib.hid (HP.out.below B2.out)
  have hnS' := U.out.1
  have hnb : (n : Int) ≤ (S.length : Int) := by omega
  have hLb : (S.length : Int) ≤ 1000000 := by omega
  clear hb B1 HP
  obtain ⟨q, d, rfl⟩ := own_slice P2.out.2.2
  cases hsil : silB ga S m with
  | true =>
    have E := next_quiet (ga := ga) (m := m) H0.out (by unfold silB at hsil; exact Option.isNone_iff_eq_none.1 hsil)
    clear hsil
    have UN := Lib.hid (fun y (hy : S[n]? = some y) => upto_next HS.out H0.out U.out hy)
    have UZ := Lib.hid (fun (hn : n = S.length) => upto_last_no (S := S) (m := m) H0.out (by rw [← hn]; exact U.out))
    have d1 : ((-1 : Int) == -1) = true := by decide
    by_cases hlt : n < S.length
    · obtain ⟨z, hz⟩ : ∃ y, S[n]? = some y := ⟨_, List.getElem?_eq_getElem hlt⟩
      have hzr := right_of (HR.out z (List.mem_of_getElem? hz))
      obtain ⟨b, c, e, _, _, hnc⟩ := own_some P2.out.2.2 (by omega)
      cases e
      have k2 : w2.cell? ⟨h, 2, none⟩ = some (.slice (some ⟨b, 0, none⟩) S.length d) := P2.out.2.1.cell 2
      have z0 : w2.cell? ⟨b, n * 3, none⟩ = some (.int .i64 z.min) := row_cell rcells_len P2.out.2.2 rfl hz (i := 0) (by decide)
      have hlt' : (n : Int) < (S.length : Int) := by omega
      have hN := UN.out z hz
      have z00 := hzr.2.2.1
      rw [hN] at E
      clear UN UZ hN hz hzr U P2 HS HR H0
      generalize z.min = zm at *
      have F := Lib.hid (comb_neg z00)
      rw [F.out] at E
      have E' := Lib.hid E
      clear E F
      go_wp2
      go_ret
      exact ⟨by rw [E'.out]; rfl, B2.out⟩
    · have hN := UZ.out (by omega)
      have k2 : w2.cell? ⟨h, 2, none⟩ = some (.slice q S.length d) := P2.out.2.1.cell 2
      have hge : (S.length : Int) ≤ (n : Int) := by omega
      have d2 : decide ((n : Int) < (S.length : Int)) = false := by simp; omega
      rw [hN] at E
      have E' := Lib.hid (E.trans (show comb (-1) (-1) = -1 from rfl))
      clear UN UZ hN U P2 HS HR H0 E
      go_wp2
      go_ret
      exact ⟨by rw [E'.out]; rfl, B2.out⟩
  | false =>
    have hn0 : n ≠ 0 := fun hn => by
      subst hn
      unfold silB at hsil
      rw [upto_none HS.out U.out] at hsil
      cases hsil
    obtain ⟨k, hk⟩ : ∃ k, k + 1 = n := ⟨n - 1, by omega⟩
    obtain ⟨y, hy⟩ : ∃ y, S[k]? = some y := ⟨_, List.getElem?_eq_getElem (show k < S.length by omega)⟩
    have hc : cnt ga S m = some y := by
      have hc := upto_some HS.out (by rw [hk]; exact U.out) hy ga
      unfold silB at hsil
      rw [hc] at hsil ⊢
      split at hsil
      · cases hsil
      · rename_i hg
        rw [if_neg hg]
    have hyr := right_of (HR.out y (List.mem_of_getElem? hy))
    have E := next_loud hyr.2.2.1 g0 hc
    obtain ⟨b, c, e, _, _, hnc⟩ := own_some P2.out.2.2 (by omega)
    cases e
    have k1 : w2.cell? ⟨h, 1, none⟩ = some (.int .i64 ga) := P2.out.2.1.cell 1
    have k2 : w2.cell? ⟨h, 2, none⟩ = some (.slice (some ⟨b, 0, none⟩) S.length d) := P2.out.2.1.cell 2
    have e0 : w2.cell? ⟨b, k * 3, none⟩ = some (.int .i64 y.min) := row_cell rcells_len P2.out.2.2 rfl hy (i := 0) (by decide)
    have q1 : IntKind.i64.wrap ((n : Int) - 1) = (k : Int) := by rw [IntWalk.i64_in _ (by omega)]; omega
    have hkl : (k : Int) < (S.length : Int) := by omega
    have q2 : IntKind.i64.wrap (y.min + ga) = y.min + ga := IntWalk.i64_in _ (by omega)
    have q3 : IntKind.i64.wrap (y.min + ga + 1) = y.min + ga + 1 := IntWalk.i64_in _ (by omega)
    clear hsil hc hy hn0 hk
    generalize y.min = ym at *
    go_wp2_with fail
    go_quiet (fail)
    rename_i nq
    clear e0 k1 k2 q1 q2 q3
    obtain ⟨N0, hN0⟩ : ∃ N0 : Int, ym + ga + 1 = N0 := ⟨_, rfl⟩
    rw [hN0]
    rw [hN0] at E
    have hN1 : N0 ≠ -1 := by omega
    have hN2 : N0 ≤ 9223372036854775807 := by omega
    have B3 := Lib.hid (below_drewN B2.out nq)
    have P3 := Lib.hid (show PSer (w2.drewN nq) B h (.slice (some ⟨b, 0, none⟩) S.length d) wo ga S from P2.out)
    obtain ⟨w3, hw3⟩ : ∃ w3, w2.drewN nq = w3 := ⟨_, rfl⟩
    rw [hw3] at B3 P3
    rw [hw3]
    clear hw3 hN0 hyr P2 B2
    have UN := Lib.hid (fun y (hy : S[n]? = some y) => upto_next HS.out H0.out U.out hy)
    have UZ := Lib.hid (fun (hn : n = S.length) => upto_last_no (S := S) (m := m) H0.out (by rw [← hn]; exact U.out))
    have d1 : (N0 == -1) = false := by simpa using hN1
    have k2 : w3.cell? ⟨h, 2, none⟩ = some (.slice (some ⟨b, 0, none⟩) S.length d) := P3.out.2.1.cell 2
    by_cases hlt : n < S.length
    · obtain ⟨z, hz⟩ : ∃ y, S[n]? = some y := ⟨_, List.getElem?_eq_getElem hlt⟩
      have hzr := right_of (HR.out z (List.mem_of_getElem? hz))
      have z0 : w3.cell? ⟨b, n * 3, none⟩ = some (.int .i64 z.min) := row_cell rcells_len P3.out.2.2 rfl hz (i := 0) (by decide)
      have hlt' : (n : Int) < (S.length : Int) := by omega
      have hN := UN.out z hz
      have z00 := hzr.2.2.1
      rw [hN] at E
      clear UN UZ hN hz hzr U P3 HS HR H0
      generalize z.min = zm at *
      by_cases t2 : zm < N0
      · have F := Lib.hid (show comb N0 zm = zm by unfold comb; rw [if_neg (by omega), if_pos (Or.inr t2)])
        have d2 : decide (zm < N0) = true := by simpa using t2
        rw [F.out] at E
        have E' := Lib.hid E
        clear E F t2 hN1
        go_wp2
        go_ret
        exact ⟨by rw [E'.out]; rfl, B3.out⟩
      · have F := Lib.hid (show comb N0 zm = N0 by unfold comb; rw [if_neg (by omega), if_neg (by omega)])
        have d2 : decide (zm < N0) = false := by simpa using t2
        rw [F.out] at E
        have E' := Lib.hid E
        clear E F t2 hN1
        go_wp2
        go_ret
        exact ⟨by rw [E'.out]; rfl, B3.out⟩
    · have hN := UZ.out (by omega)
      have hge : (S.length : Int) ≤ (n : Int) := by omega
      have d2 : decide ((n : Int) < (S.length : Int)) = false := by simp; omega
      rw [hN, show comb N0 (-1) = N0 from if_pos (by decide)] at E
      have E' := Lib.hid E
      clear UN UZ hN U P3 HS HR H0 E hN1
      go_wp2
      go_ret
      exact ⟨by rw [E'.out]; rfl, B3.out⟩
end Se
end Go.Proofs.Ytfmnbmjfkplieaa
