/- Walks over the document's answer of layer 7. Conditions: readings, a worst, a gap that may be. -/
import Derived.Test.YtfmnbmjfkplieaaSe5
import Derived.Test.YtfmnbmjfkplieaaExNum
import Derived.Test.YtfmnbmjfkplieaaSt1
namespace Go.Proofs.Ytfmnbmjfkplieaa
open Go.RowKit Se

namespace Ex
set_option maxRecDepth 100000 in
set_option maxHeartbeats 2000000 in
theorem rexc_any (B g : Nat) (v : Value) (wo ga lim : Int) (L : List Rd) (m : Int) (w : World) (h : RSer w B g v wo ga L) (hR : ∀ x ∈ L, rightB x = true) (hm : mayB wo ga = true) (hl : tenB lim = true) (hL : L.length ≤ 1000000) :
    Calls Try.prog 28 #[.pointer (some ⟨g, 0, none⟩), .int .i64 lim, .int .i64 m] w fun e w' => e = .returned (.int .i64 (exc wo ga lim L m)) ∧ Below w.heap.size w w' := by
  have hb := air_bd hm hR m
  have hlb : -1099511627776 ≤ lim ∧ lim ≤ 1099511627776 := by simpa [tenB] using hl
  have hg := may_of hm
  by_cases h0 : m < 0
  · have E := Lib.hid (show exc wo ga lim L m = 0 from if_pos (.inl h0))
    clear h hb hlb
    go_enter Try.func28, Try.ntmps28
    go_wp2
    go_ret
    exact ⟨by rw [E.out]; rfl, Below.refl _ _⟩
  · by_cases h1 : 1048575 < m
    · have E := Lib.hid (show exc wo ga lim L m = 0 from if_pos (.inr h1))
      clear h hb hlb
      go_enter Try.func28, Try.ntmps28
      go_wp2
      go_ret
      exact ⟨by rw [E.out]; rfl, Below.refl _ _⟩
    · have E := Lib.hid (show exc wo ga lim L m = max 0 (air wo ga L m - lim) from if_neg (by omega))
      have A := Lib.hid (rat_any B g v wo ga L m w h hR ⟨hg.2.2.1, hg.2.2.2⟩ (by omega) hL)
      clear h hg
      generalize air wo ga L m = u at *
      have q : IntKind.i64.wrap (u - lim) = u - lim := IntWalk.i64_in _ (by omega)
      obtain ⟨a1, a2⟩ := hb
      obtain ⟨b1, b2⟩ := hlb
      have h0' : 0 ≤ m := by omega
      have h1' : m ≤ 1048575 := by omega
      go_enter Try.func28, Try.ntmps28
      go_wp2_with fail
      refine A.out.mono ?_
      rintro e w1 ⟨rfl, hb⟩
      have B1 := Lib.hid hb
      clear hb A
      by_cases hd : lim < u
      · have hd' : ¬ u ≤ lim := by omega
        have E2 := Lib.hid (E.out.trans (show max 0 (u - lim) = u - lim by omega))
        go_wp2
        go_ret
        exact ⟨by rw [E2.out]; rfl, B1.out⟩
      · have hd' : u ≤ lim := by omega
        have E2 := Lib.hid (E.out.trans (show max 0 (u - lim) = 0 by omega))
        go_wp2
        go_ret
        exact ⟨by rw [E2.out]; rfl, B1.out⟩
set_option maxRecDepth 100000 in
set_option maxHeartbeats 4000000 in
theorem rsum_yes (B g : Nat) (v : Value) (wo ga lim : Int) (L : List Rd) (a b : Int) (w : World) (h : RSer w B g v wo ga L) (hR : ∀ x ∈ L, rightB x = true) (hm : mayB wo ga = true) (hl : tenB lim = true) (hL : L.length ≤ 1000000)
    (a1 : a ≤ 9223372036854775807) (b1 : b ≤ 9223372036854775807) :
    Calls Try.prog 13 #[.pointer (some ⟨g, 0, none⟩), .int .i64 lim, .int .i64 a, .int .i64 b] w fun e w' => e = .returned (.int .i64 (tot wo ga lim L a b)) ∧ Below w.heap.size w w' := by
  have T := Lib.hid (fun W => rten_any lim W)
  rw [hl] at T
  have X := Lib.hid (fun W m (hp : RSer W B g v wo ga L) => rexc_any B g v wo ga lim L m W hp hR hm hl hL)
  have W2 := Lib.hid (fun (k : Nat) m W (hk : k + 1 ≤ 1048576) => show Calls Try.prog 29 #[.int .i64 (run (exc wo ga lim L) m k), .int .i64 (exc wo ga lim L (m + k))] W fun e w' => e = .returned (.int .i64 (run (exc wo ga lim L) m (k + 1))) ∧ W = w' by
    have hb := run_bd hm hR hl m (k + 1) hk
    have hb0 := run_bd hm hR hl m k (by omega)
    have he := exc_nn wo ga lim L (m + k)
    have hr : run (exc wo ga lim L) m (k + 1) = run (exc wo ga lim L) m k + exc wo ga lim L (m + k) := rfl
    have h2 := St.two_any (run (exc wo ga lim L) m k) (exc wo ga lim L (m + k)) W
    rw [St.St.fit_mid hb0.1 (by omega), St.St.fit_mid he (by omega), St.St.cap_mid (by omega), ← hr] at h2
    exact h2)
  have HP := Lib.hid h
  unfold tot
  obtain ⟨m0, hm0, hm1, hm2⟩ : ∃ m0 : Int, max a 0 = m0 ∧ 0 ≤ m0 ∧ m0 ≤ 9223372036854775807 := ⟨_, rfl, by omega, by omega⟩
  rw [hm0]
  obtain ⟨K, hK, hK1⟩ : ∃ K : Nat, (min b 1048576 - m0).toNat = K ∧ K ≤ 1048576 := ⟨_, rfl, by omega⟩
  rw [hK]
  have HK := Lib.hid (show ∀ k : Nat, k ≤ K → (k < K → m0 + (k : Int) < b ∧ m0 + (k : Int) ≤ 1048575) ∧ (¬ k < K → k = K ∧ ¬ (m0 + (k : Int) < b ∧ m0 + (k : Int) ≤ 1048575)) from fun k hk => ⟨fun h => by omega, fun h => by omega⟩)
  have H0 := Lib.hid (show a ≤ 0 → m0 = 0 by omega)
  have H1 := Lib.hid (show ¬ a ≤ 0 → m0 = a by omega)
  clear h hm0 hK hR hm hl hL
  generalize exc wo ga lim L = f at *
  by_cases ha : a ≤ 0
  all_goals
    go_enter Try.func13, Try.ntmps13
    go_wp2_with fail
    refine (T.out _).mono ?_
    rintro e w1 ⟨rfl, rfl⟩
    go_wp2_with fail
    go_loopw [10, 11] (fun vs vm wr => ∃ k : Nat, k ≤ K ∧ vs = .int .i64 (run f m0 k) ∧ vm = .int .i64 (m0 + k) ∧ Hid (Below w.heap.size w wr)) (fun _ vm _ => (m0 + K - intOf vm).toNat)
    case atStart => exact ⟨0, Nat.zero_le _, rfl, by first | (rw [H0.out (by omega)]; rfl) | (rw [H1.out (by omega)]; simp), Lib.hid (Below.refl _ _)⟩
    case round =>
      obtain ⟨k, hk, rfl, rfl, HB⟩ := hrel
      by_cases hlt : k < K
      · obtain ⟨c1, c2⟩ := (HK.out k hk).1 hlt
        have d1 : decide (m0 + (k : Int) < b) = true := by simpa using c1
        have d2 : decide (m0 + (k : Int) ≤ 1048575) = true := by simpa using c2
        have hk0 : (0 : Int) ≤ (k : Int) := by omega
        have hk1 : k + 1 ≤ K := by omega
        clear hlt
        go_wp2_with fail
        refine (X.out _ (m0 + k) (HP.out.below HB.out)).mono ?_
        rintro e w2 ⟨rfl, hb⟩
        have HB2 := Lib.hid (then_ HB.out hb)
        clear hb HB
        go_wp2_with fail
        refine (W2.out k m0 _ (by omega)).mono ?_
        rintro e w3 ⟨rfl, rfl⟩
        go_wp2
        go_roundw
        case rel => exact ⟨k + 1, hk1, rfl, by rw [Int.natCast_add, ← Int.add_assoc]; rfl, HB2⟩
        case measure => simp [intOf]; omega
      · obtain ⟨rfl, c⟩ := (HK.out k hk).2 hlt
        by_cases c1 : m0 + (k : Int) < b
        · have c2 : ¬ m0 + (k : Int) ≤ 1048575 := fun h => c ⟨c1, h⟩
          have d1 : decide (m0 + (k : Int) < b) = true := by simpa using c1
          have d2 : decide (m0 + (k : Int) ≤ 1048575) = false := by simpa using c2
          clear c c1 c2 hlt
          go_wp2
          go_ret
          exact ⟨rfl, HB.out⟩
        · have d1 : decide (m0 + (k : Int) < b) = false := by simpa using c1
          clear c c1 hlt
          go_wp2
          go_ret
          exact ⟨rfl, HB.out⟩
theorem rsum_no (B g : Nat) (v : Value) (wo ga lim : Int) (L : List Rd) (a b : Int) (w : World) (_ : RSer w B g v wo ga L) (hl : tenB lim = false) :
    Calls Try.prog 13 #[.pointer (some ⟨g, 0, none⟩), .int .i64 lim, .int .i64 a, .int .i64 b] w fun e w' => e = .returned (.int .i64 0) ∧ Below w.heap.size w w' := by
  have T := Lib.hid (fun W => rten_any lim W)
  rw [hl] at T
  clear hl
  go_enter Try.func13, Try.ntmps13
  go_wp2_with fail
  refine (T.out _).mono ?_
  rintro e w1 ⟨rfl, rfl⟩
  go_wp2
  go_ret
  exact ⟨rfl, Below.refl _ _⟩
end Ex
end Go.Proofs.Ytfmnbmjfkplieaa
