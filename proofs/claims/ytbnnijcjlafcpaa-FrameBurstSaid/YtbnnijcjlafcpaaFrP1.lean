/- Walks over package frame: whether a frame may be, its tenths. No condition but those written. -/
import Derived.Test.YtbnnijcjlafcpaaFrNum
import Derived.Test.YtbnnijcjlafcpaaMem
import Derived.Test.YtbnnijcjlafcpaaDg1
import Derived.Test.YtbnnijcjlafcpaaFr2
namespace Go.Proofs.Ytbnnijcjlafcpaa
open Go.RowKit

namespace Fr
theorem isnum_any (b : Nat) (w : World) :
    Calls Try.prog 29 #[.int .u64 b] w fun e w' => e = .returned (.bool (decide (Hf.rg b ≤ Hf.infR))) ∧ w = w' := by
  by_cases h : Hf.rg b ≤ Hf.infR
  · rw [decide_eq_true h]
    have O := Lib.hid (fun W => Dg.of_any b h W)
    clear h
    go_enter Try.func29, Try.ntmps29
    go_wp2_with fail
    refine (O.out _).mono ?_
    rintro e w' ⟨rfl, rfl⟩
    go_wp2
    go_ret
    exact ⟨rfl, rfl⟩
  · rw [decide_eq_false h]
    have O := Lib.hid (fun W => Dg.of_nan b (by omega) W)
    clear h
    go_enter Try.func29, Try.ntmps29
    go_wp2_with fail
    refine (O.out _).mono ?_
    rintro e w' ⟨rfl, rfl⟩
    go_wp2
    go_ret
    exact ⟨rfl, rfl⟩
set_option maxRecDepth 100000 in
set_option maxHeartbeats 1000000 in
theorem fright_num (f : Frm) (w : World) (h : numB f = false) : Calls Try.prog 14 #[val f] w fun e w' => e = .returned (.bool (okB f)) ∧ Below w.heap.size w w' := by
  have E : Hid (okB f = false) := Lib.hid (by simp [okB, h])
  obtain ⟨z, s, m, d, o, b⟩ := f
  simp only [numB, decide_eq_false_iff_not] at h
  have c : z < 1 ∨ (1 ≤ z ∧ 16 < z) ∨ (1 ≤ z ∧ z ≤ 16 ∧ s < 0) ∨ (1 ≤ z ∧ z ≤ 16 ∧ 0 ≤ s ∧ 65536 ≤ s) ∨ (1 ≤ z ∧ z ≤ 16 ∧ 0 ≤ s ∧ s < 65536 ∧ m < 0) ∨ (1 ≤ z ∧ z ≤ 16 ∧ 0 ≤ s ∧ s < 65536 ∧ 0 ≤ m ∧ 1048576 ≤ m) := by omega
  clear h
  unfold val
  rcases c with h1 | ⟨h1, h2⟩ | ⟨h1, h2, h3⟩ | ⟨h1, h2, h3, h4⟩ | ⟨h1, h2, h3, h4, h5⟩ | ⟨h1, h2, h3, h4, h5, h6⟩
  all_goals
    go_enter Try.func14, Try.ntmps14
    go_wp2
    go_ret
    exact ⟨by rw [E.out]; rfl, (Below.refl _ w).alloc (Nat.le_refl _) _⟩
set_option maxRecDepth 100000 in
set_option maxHeartbeats 1000000 in
theorem fright_said (f : Frm) (w : World) (h : numB f = true) : Calls Try.prog 14 #[val f] w fun e w' => e = .returned (.bool (okB f)) ∧ Below w.heap.size w w' := by
  have E : Hid (okB f = saidB f) := Lib.hid (by simp [okB, h])
  obtain ⟨h1, h2, h3, h4, h5, h6⟩ := num_of h
  obtain ⟨z, s, m, d, o, b⟩ := f
  simp only at h1 h2 h3 h4 h5 h6
  have O := Lib.hid (fun W => isnum_any b W)
  have h4' : s < 65536 := by omega
  have h6' : m < 1048576 := by omega
  clear h h4 h6
  unfold val
  cases d
  · cases o
    · have E2 : Hid (saidB ⟨z, s, m, false, false, b⟩ = decide (Hf.rg b ≤ Hf.infR)) := Lib.hid (by simp [saidB])
      generalize decide (Hf.rg b ≤ Hf.infR) = u at *
      go_enter Try.func14, Try.ntmps14
      go_wp2_with fail
      refine (O.out _).mono ?_
      rintro e w' ⟨rfl, rfl⟩
      go_wp2
      go_ret
      exact ⟨by rw [E.out, E2.out]; rfl, (Below.refl _ w).alloc (Nat.le_refl _) _⟩
    · have E2 : Hid (saidB ⟨z, s, m, false, true, b⟩ = false) := Lib.hid (by simp [saidB])
      go_enter Try.func14, Try.ntmps14
      go_wp2
      go_ret
      exact ⟨by rw [E.out, E2.out]; rfl, (Below.refl _ w).alloc (Nat.le_refl _) _⟩
  · have E2 : Hid (saidB ⟨z, s, m, true, o, b⟩ = decide (b = 0)) := Lib.hid (by simp [saidB])
    have E3 : Hid (((b : Int) == 0) = decide (b = 0)) := Lib.hid (eq_nat b 0)
    go_enter Try.func14, Try.ntmps14
    go_wp2
    go_ret
    exact ⟨by rw [E.out, E2.out, ← E3.out]; rfl, (Below.refl _ w).alloc (Nat.le_refl _) _⟩
/-- Whether a frame may be: the program. -/
theorem fright_any (f : Frm) (w : World) : Calls Try.prog 14 #[val f] w fun e w' => e = .returned (.bool (okB f)) ∧ Below w.heap.size w w' := by
  by_cases h : numB f = true
  · exact fright_said f w h
  · exact fright_num f w (by simpa using h)
set_option maxRecDepth 100000 in
set_option maxHeartbeats 1000000 in
theorem ften_any (f : Frm) (w : World) :
    Calls Try.prog 9 #[val f] w fun e w' => e = .returned (.tuple #[.int .i64 (ten f).1, .int .i64 ((ten f).2 : Int)]) ∧ Below w.heap.size w w' := by
  have R := Lib.hid (fun W => fright_any f W)
  have X0 := Lib.hid (box_new w 24 f)
  have B0 := Lib.hid ((Below.refl w.heap.size w).alloc (Nat.le_refl _) (.cells #[.int .i64 f.zone, .int .i64 f.seq, .int .i64 f.minute, .bool f.door, .bool f.opn, .int .u64 (f.bits : Int)] 24))
  by_cases hok : okB f = true
  · by_cases hd : f.door = true
    · have E : Hid (ten f = (0, 1)) := Lib.hid (by simp [ten, hd])
      rw [hok] at R
      clear hok
      obtain ⟨z, s, m, d, o, b⟩ := f
      unfold val at *
      simp only at *
      subst hd
      go_enter Try.func9, Try.ntmps9
      go_wp2_with fail
      refine (R.out _).mono ?_
      rintro e w1 ⟨rfl, hb⟩
      obtain ⟨_, _, _, x3, _⟩ := X0.out.keep hb
      have B1 := Lib.hid (B0.out.trans (hb.mono B0.out.size))
      clear hb B0
      go_wp2
      go_ret2
      exact ⟨by rw [E.out]; rfl, B1.out⟩
    · have hd' : f.door = false := by simpa using hd
      have hr : Hf.rg f.bits ≤ Hf.infR := by
        simp only [okB, saidB, hd', Bool.and_eq_true, Bool.false_eq_true, if_false, decide_eq_true_eq] at hok
        exact hok.2.2
      have E : Hid (ten f = (Hf.tenths f.bits, 0)) := Lib.hid (by simp [ten, hd', hok])
      have O := Lib.hid (fun W => Dg.of_any f.bits hr W)
      rw [hok] at R
      clear hok hd hr
      obtain ⟨z, s, m, d, o, b⟩ := f
      unfold val at *
      simp only at *
      subst hd'
      go_enter Try.func9, Try.ntmps9
      go_wp2_with fail
      refine (R.out _).mono ?_
      rintro e w1 ⟨rfl, hb⟩
      obtain ⟨_, _, _, x3, _, x5⟩ := X0.out.keep hb
      have B1 := Lib.hid (B0.out.trans (hb.mono B0.out.size))
      clear hb B0
      go_wp2_with fail
      refine (O.out _).mono ?_
      rintro e w2 ⟨rfl, rfl⟩
      go_wp2
      go_ret2
      exact ⟨by rw [E.out]; rfl, B1.out⟩
  · have hok' : okB f = false := by simpa using hok
    have E : Hid (ten f = (0, 1)) := Lib.hid (by simp [ten, hok'])
    rw [hok'] at R
    clear hok hok'
    obtain ⟨z, s, m, d, o, b⟩ := f
    unfold val at *
    simp only at *
    go_enter Try.func9, Try.ntmps9
    go_wp2_with fail
    refine (R.out _).mono ?_
    rintro e w1 ⟨rfl, hb⟩
    have B1 := Lib.hid (B0.out.trans (hb.mono B0.out.size))
    clear hb B0
    go_wp2
    go_ret2
    exact ⟨by rw [E.out]; rfl, B1.out⟩
end Fr
end Go.Proofs.Ytbnnijcjlafcpaa
