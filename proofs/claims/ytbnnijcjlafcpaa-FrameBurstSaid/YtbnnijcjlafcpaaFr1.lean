/- Walks over the document's answer of layer 5 (hoarfrostref05). No condition but those written. -/
import Derived.Test.YtbnnijcjlafcpaaFrNum
import Derived.Test.YtbnnijcjlafcpaaDgRef11
import Derived.Test.YtbnnijcjlafcpaaOb2
import Derived.Test.YtbnnijcjlafcpaaOb4
import Derived.Test.YtbnnijcjlafcpaaCkRef
namespace Go.Proofs.Ytbnnijcjlafcpaa
open Go.RowKit

namespace Fr
/-- What Of answers, in one: the tenths and the error. -/
theorem rof_all (b : Nat) (hb : b < 18446744073709551616) (w : World) :
    Calls Try.prog 15 #[.int .u64 b] w fun e w' => e = .returned (.tuple #[.int .i64 (if Hf.rg b ≤ Hf.infR then Hf.tenths b else 0), .int .i64 (if Hf.rg b ≤ Hf.infR then 0 else 2)]) ∧ w = w' := by
  by_cases h : Hf.rg b ≤ Hf.infR
  · rw [if_pos h, if_pos h]
    exact Dg.rof_any b hb h w
  · rw [if_neg h, if_neg h]
    exact Dg.rof_nan b hb (by omega) w
set_option maxRecDepth 100000 in
set_option maxHeartbeats 1000000 in
theorem right_num (f : Frm) (w : World) (h : numB f = false) : Calls Try.prog 6 #[val f] w fun e w' => e = .returned (.bool (okB f)) ∧ Below w.heap.size w w' := by
  have E : Hid (okB f = false) := Lib.hid (by simp [okB, h])
  obtain ⟨z, s, m, d, o, b⟩ := f
  simp only [numB, decide_eq_false_iff_not] at h
  have c : z < 1 ∨ (1 ≤ z ∧ 16 < z) ∨ (1 ≤ z ∧ z ≤ 16 ∧ s < 0) ∨ (1 ≤ z ∧ z ≤ 16 ∧ 0 ≤ s ∧ 65535 < s) ∨ (1 ≤ z ∧ z ≤ 16 ∧ 0 ≤ s ∧ s ≤ 65535 ∧ m < 0) ∨ (1 ≤ z ∧ z ≤ 16 ∧ 0 ≤ s ∧ s ≤ 65535 ∧ 0 ≤ m ∧ 1048575 < m) := by omega
  clear h
  unfold val
  rcases c with h1 | ⟨h1, h2⟩ | ⟨h1, h2, h3⟩ | ⟨h1, h2, h3, h4⟩ | ⟨h1, h2, h3, h4, h5⟩ | ⟨h1, h2, h3, h4, h5, h6⟩
  all_goals
    go_enter Try.func6, Try.ntmps6
    go_wp2
    go_ret
    exact ⟨by rw [E.out]; rfl, (Below.refl _ w).alloc (Nat.le_refl _) _⟩
set_option maxRecDepth 100000 in
set_option maxHeartbeats 1000000 in
theorem right_said (f : Frm) (w : World) (h : numB f = true) (hb : f.bits < 18446744073709551616) : Calls Try.prog 6 #[val f] w fun e w' => e = .returned (.bool (okB f)) ∧ Below w.heap.size w w' := by
  have E : Hid (okB f = saidB f) := Lib.hid (by simp [okB, h])
  obtain ⟨h1, h2, h3, h4, h5, h6⟩ := num_of h
  obtain ⟨z, s, m, d, o, b⟩ := f
  simp only at h1 h2 h3 h4 h5 h6 hb
  have O := Lib.hid (fun W => rof_all b hb W)
  clear h hb
  unfold val
  cases d
  · cases o
    · by_cases hr : Hf.rg b ≤ Hf.infR
      · have E2 : Hid (saidB ⟨z, s, m, false, false, b⟩ = true) := Lib.hid (by simp [saidB, hr])
        rw [if_pos hr, if_pos hr] at O
        clear hr
        go_enter Try.func6, Try.ntmps6
        go_wp2_with fail
        refine (O.out _).mono ?_
        rintro e w' ⟨rfl, rfl⟩
        go_wp2
        go_ret
        exact ⟨by rw [E.out, E2.out]; rfl, (Below.refl _ w).alloc (Nat.le_refl _) _⟩
      · have E2 : Hid (saidB ⟨z, s, m, false, false, b⟩ = false) := Lib.hid (by simp [saidB, hr])
        rw [if_neg hr, if_neg hr] at O
        clear hr
        go_enter Try.func6, Try.ntmps6
        go_wp2_with fail
        refine (O.out _).mono ?_
        rintro e w' ⟨rfl, rfl⟩
        go_wp2
        go_ret
        exact ⟨by rw [E.out, E2.out]; rfl, (Below.refl _ w).alloc (Nat.le_refl _) _⟩
    · have E2 : Hid (saidB ⟨z, s, m, false, true, b⟩ = false) := Lib.hid (by simp [saidB])
      generalize (if Hf.rg b ≤ Hf.infR then Hf.tenths b else 0) = u at *
      generalize (if Hf.rg b ≤ Hf.infR then (0 : Int) else 2) = v at *
      go_enter Try.func6, Try.ntmps6
      go_wp2_with fail
      refine (O.out _).mono ?_
      rintro e w' ⟨rfl, rfl⟩
      go_wp2
      go_ret
      exact ⟨by rw [E.out, E2.out]; rfl, (Below.refl _ w).alloc (Nat.le_refl _) _⟩
  · generalize (if Hf.rg b ≤ Hf.infR then Hf.tenths b else 0) = u at *
    generalize (if Hf.rg b ≤ Hf.infR then (0 : Int) else 2) = v at *
    by_cases h0 : b = 0
    · have E2 : Hid (saidB ⟨z, s, m, true, o, b⟩ = true) := Lib.hid (by simp [saidB, h0])
      have t0 : ((b : Int) == 0) = true := by simp; omega
      clear h0
      go_enter Try.func6, Try.ntmps6
      go_wp2_with fail
      refine (O.out _).mono ?_
      rintro e w' ⟨rfl, rfl⟩
      go_wp2
      go_ret
      exact ⟨by rw [E.out, E2.out]; rfl, (Below.refl _ w).alloc (Nat.le_refl _) _⟩
    · have E2 : Hid (saidB ⟨z, s, m, true, o, b⟩ = false) := Lib.hid (by simp [saidB, h0])
      have t0 : ((b : Int) == 0) = false := by simp; omega
      clear h0
      go_enter Try.func6, Try.ntmps6
      go_wp2_with fail
      refine (O.out _).mono ?_
      rintro e w' ⟨rfl, rfl⟩
      go_wp2
      go_ret
      exact ⟨by rw [E.out, E2.out]; rfl, (Below.refl _ w).alloc (Nat.le_refl _) _⟩
/-- Whether a frame may be: the document's answer. -/
theorem rright_any (f : Frm) (w : World) (hb : f.bits < 18446744073709551616) : Calls Try.prog 6 #[val f] w fun e w' => e = .returned (.bool (okB f)) ∧ Below w.heap.size w w' := by
  by_cases h : numB f = true
  · exact right_said f w h hb
  · exact right_num f w (by simpa using h)
end Fr
end Go.Proofs.Ytbnnijcjlafcpaa
