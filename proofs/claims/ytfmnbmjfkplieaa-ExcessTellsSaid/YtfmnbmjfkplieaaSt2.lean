/- Walks over the sums and the product of package sat and of the document's answer; no condition but those written. -/
import Derived.Test.YtfmnbmjfkplieaaSt1
import Derived.WalkMore
namespace Go.Proofs.Ytfmnbmjfkplieaa
namespace St
open Go.RowKit

theorem add_nil (p : Option Addr) (c : Nat) (w : World) : Calls Try.prog 51 #[.slice p 0 c] w fun e w' => e = .returned (.int .i64 0) ∧ w = w' := by
  go_enter Try.func51, Try.ntmps51
  go_wp2
  go_loop [3, 8] (fun s i => i = .int .i64 0 ∧ s = .int .i64 0) (fun _ _ => 0)
  case atStart => exact ⟨rfl, rfl⟩
  case round =>
    obtain ⟨rfl, rfl⟩ := hrel
    go_wp2
    go_ret
    exact ⟨rfl, rfl⟩
theorem add_any (b off len cap : Nat) (zs : List Int) (w : World) (hz : len ≤ zs.length) (hbig : len ≤ 9223372036854775807) (hc : ∀ j, j < zs.length → w.cell? ⟨b, off + j, none⟩ = some (.int .i64 (zs.getD j 0))) :
    Calls Try.prog 51 #[.slice (some ⟨b, off, none⟩) len cap] w fun e w' => e = .returned (.int .i64 (St.cap (St.sum (zs.take len)))) ∧ w = w' := by
  have HC := Lib.hid hc
  clear hc
  go_enter Try.func51, Try.ntmps51
  go_wp2
  go_loop [3, 8] (fun s i => ∃ k : Nat, k ≤ len ∧ i = .int .i64 k ∧ s = .int .i64 (St.cap (St.sum (zs.take k)))) (fun _ i => len - (intOf i).toNat)
  case atStart => exact ⟨0, Nat.zero_le _, rfl, rfl⟩
  case round =>
    obtain ⟨k, hk, rfl, rfl⟩ := hrel
    obtain ⟨c0, c1⟩ := St.cap_bd (St.sum_nn (zs.take k))
    by_cases hlt : k < len
    · have hcell := HC.out k (by omega)
      have HS := Lib.hid (St.step zs k (by omega))
      have F := fit_any (zs.getD k 0)
      obtain ⟨f0, f1⟩ := St.fit_bd (zs.getD k 0)
      generalize zs.getD k 0 = z at *
      generalize St.fit z = y at *
      generalize St.cap (St.sum (zs.take k)) = x at *
      have F' := Lib.hid F
      have P' := Lib.hid (plus_any x y c0 c1 f0 f1)
      clear F
      go_wp2_with fail
      refine (F'.out _).mono ?_
      rintro e w' ⟨rfl, rfl⟩
      go_wp2_with fail
      refine (P'.out _).mono ?_
      rintro e w' ⟨rfl, rfl⟩
      go_wp2
      go_round
      case rel => exact ⟨k + 1, by omega, by go_num, by rw [HS.out]⟩
      case measure => simp [intOf]; omega
    · obtain rfl : k = len := by omega
      go_wp2
      go_ret
      exact ⟨rfl, rfl⟩
set_option maxHeartbeats 1000000 in
theorem mul_any (a b : Int) (w : World) :
    Calls Try.prog 52 #[.int .i64 a, .int .i64 b] w fun e w' => e = .returned (.int .i64 (St.cap (St.fit a * St.fit b))) ∧ w = w' := by
  have HA := fit_any a
  have HB := fit_any b
  obtain ⟨a0, a1⟩ := St.fit_bd a
  obtain ⟨b0, b1⟩ := St.fit_bd b
  generalize St.fit a = x at *
  generalize St.fit b = y at *
  have HA' := Lib.hid HA
  have HB' := Lib.hid HB
  clear HA HB
  go_enter Try.func52, Try.ntmps52
  go_wp2
  go_step3
  go_wp2_with fail
  refine (HA'.out _).mono ?_
  rintro e w' ⟨rfl, rfl⟩
  go_wp2
  go_step3
  go_wp2_with fail
  refine (HB'.out _).mono ?_
  rintro e w' ⟨rfl, rfl⟩
  go_wp2
  go_loop [5, 6, 7] (fun vp vq vr => ∃ p q r : Int, vp = .int .i64 p ∧ vq = .int .i64 q ∧ vr = .int .i64 r ∧ 0 ≤ p ∧ p ≤ 4611686018427387904 ∧ 0 ≤ q ∧ q ≤ 4611686018427387904 ∧ 0 ≤ r ∧ r ≤ 4611686018427387904 ∧ Hid (St.cap (p + q * r) = St.cap (x * y))) (fun _ _ vr => (intOf vr).toNat)
  case atStart => exact ⟨0, x, y, rfl, rfl, rfl, by omega, by omega, a0, a1, b0, b1, Lib.hid (by rw [Int.zero_add])⟩
  case round =>
    obtain ⟨p, q, r, rfl, rfl, rfl, p0, p1, q0, q1, r0, r1, HI⟩ := hrel
    by_cases hr : 0 < r
    · by_cases hp : p = 4611686018427387904
      · have E := Lib.hid ((St.done hp q0 r0).symm.trans HI.out)
        have t1 : (p == 4611686018427387904) = true := by simp [hp]
        have HP := Lib.hid hp
        clear hp
        go_wp2
        try rw [Exit.noGoto_ret]
        go_ret
        exact ⟨ret_int (HP.out.trans E.out), rfl⟩
      · have t1 : (p == 4611686018427387904) = false := by simp [hp]
        have Q' := Lib.hid (plus_any q q q0 q1 q0 q1)
        obtain ⟨c0, c1⟩ := St.cap_bd (n := q + q) (by omega)
        clear hp
        rcases (show r % 2 = 0 ∨ r % 2 = 1 by omega) with h | h
        · have E := Lib.hid ((St.half0 p0 r0 h).symm.trans HI.out)
          have t2 : (r % 2 == 1) = false := by rw [h]; rfl
          generalize St.cap (q + q) = q' at *
          clear HI h
          go_wp2_with fail
          refine (Q'.out _).mono ?_
          rintro e w' ⟨rfl, rfl⟩
          go_wp2
          go_round
          case rel => exact ⟨p, q', r / 2, rfl, rfl, by go_num, p0, p1, c0, c1, by omega, by omega, E⟩
          case measure => simp [intOf]; omega
        · have E := Lib.hid ((St.half1 p0 q0 r0 h).symm.trans HI.out)
          have P' := Lib.hid (plus_any p q p0 p1 q0 q1)
          obtain ⟨d0, d1⟩ := St.cap_bd (n := p + q) (by omega)
          have t2 : (r % 2 == 1) = true := by rw [h]; rfl
          generalize St.cap (q + q) = q' at *
          generalize St.cap (p + q) = p' at *
          clear HI h
          go_wp2_with fail
          refine (P'.out _).mono ?_
          rintro e w' ⟨rfl, rfl⟩
          go_wp2_with fail
          refine (Q'.out _).mono ?_
          rintro e w' ⟨rfl, rfl⟩
          go_wp2
          go_round
          case rel => exact ⟨p', q', r / 2, rfl, rfl, by go_num, d0, d1, c0, c1, by omega, by omega, E⟩
          case measure => simp [intOf]; omega
    · obtain rfl : r = 0 := by omega
      have E := Lib.hid (show p = St.cap (x * y) by rw [← HI.out, Int.mul_zero, Int.add_zero, St.cap_mid p1])
      clear HI
      go_wp2
      try rw [Exit.noGoto_ret]
      go_ret
      exact ⟨ret_int E.out, rfl⟩
end St
end Go.Proofs.Ytfmnbmjfkplieaa
