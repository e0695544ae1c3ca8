/- Walks over package master, and the document's answer of layer 10: whether a zone, or a product, may be. No condition but those written. -/
import Derived.Test.YtpceoklacpcfkaaMsMap
namespace Go.Proofs.Ytpceoklacpcfkaa
open Go.RowKit

namespace Ms
theorem ft_any (n a b : Int) (w : World) : Calls Try.prog 29 #[.int .i64 n, .int .i64 a, .int .i64 b] w fun e w' => e = .returned (.bool (ft n a b)) ∧ w = w' := by
  by_cases h1 : a ≤ n
  · by_cases h2 : n ≤ b
    · have E := Lib.hid (ft_t.2 ⟨h1, h2⟩)
      go_enter Try.func29, Try.ntmps29
      go_wp2
      go_ret
      exact ⟨by rw [E.out]; rfl, rfl⟩
    · have E := Lib.hid (ft_f.2 (fun h : a ≤ n ∧ n ≤ b => h2 h.2))
      have h2' : decide (n ≤ b) = false := by simpa using h2
      go_enter Try.func29, Try.ntmps29
      go_wp2
      go_ret
      exact ⟨by rw [E.out]; rfl, rfl⟩
  · have E := Lib.hid (ft_f.2 (fun h : a ≤ n ∧ n ≤ b => h1 h.1))
    have h1' : decide (a ≤ n) = false := by simpa using h1
    go_enter Try.func29, Try.ntmps29
    go_wp2
    go_ret
    exact ⟨by rw [E.out]; rfl, rfl⟩
theorem tenth_any (n : Int) (w : World) : Calls Try.prog 30 #[.int .i64 n] w fun e w' => e = .returned (.bool (ft n (-1099511627776) 1099511627776)) ∧ w = w' := by
  have C := Lib.hid (fun W => ft_any n (-1099511627776) 1099511627776 W)
  generalize ft n (-1099511627776) 1099511627776 = u at *
  go_enter Try.func30, Try.ntmps30
  go_wp2_with fail
  refine (C.out _).mono ?_
  rintro e w' ⟨rfl, rfl⟩
  go_wp2
  go_ret
  exact ⟨rfl, rfl⟩
theorem minutes_any (n : Int) (w : World) : Calls Try.prog 31 #[.int .i64 n] w fun e w' => e = .returned (.bool (ft n 0 1048575)) ∧ w = w' := by
  have C := Lib.hid (fun W => ft_any n 0 1048575 W)
  generalize ft n 0 1048575 = u at *
  go_enter Try.func31, Try.ntmps31
  go_wp2_with fail
  refine (C.out _).mono ?_
  rintro e w' ⟨rfl, rfl⟩
  go_wp2
  go_ret
  exact ⟨rfl, rfl⟩
theorem rten_any (n : Int) (w : World) : Calls Try.prog 32 #[.int .i64 n] w fun e w' => e = .returned (.bool (ft n (-1099511627776) 1099511627776)) ∧ w = w' := by
  by_cases h1 : -1099511627776 ≤ n
  · by_cases h2 : n ≤ 1099511627776
    · have E := Lib.hid (ft_t.2 ⟨h1, h2⟩)
      go_enter Try.func32, Try.ntmps32
      go_wp2
      go_ret
      exact ⟨by rw [E.out]; rfl, rfl⟩
    · have E := Lib.hid (ft_f.2 (fun h : -1099511627776 ≤ n ∧ n ≤ 1099511627776 => h2 h.2))
      have h2' : decide (n ≤ 1099511627776) = false := by simpa using h2
      go_enter Try.func32, Try.ntmps32
      go_wp2
      go_ret
      exact ⟨by rw [E.out]; rfl, rfl⟩
  · have E := Lib.hid (ft_f.2 (fun h : -1099511627776 ≤ n ∧ n ≤ 1099511627776 => h1 h.1))
    have h1' : decide (-1099511627776 ≤ n) = false := by simpa using h1
    go_enter Try.func32, Try.ntmps32
    go_wp2
    go_ret
    exact ⟨by rw [E.out]; rfl, rfl⟩
set_option maxRecDepth 100000 in
set_option maxHeartbeats 2000000 in
theorem maybeZ_any (x : Zn) (w : World) : Calls Try.prog 19 #[zval x] w fun e w' => e = .returned (.bool (rightZ x)) ∧ Below w.heap.size w w' := by
  obtain ⟨a, b, c, d, e, f⟩ := x
  unfold zval rightZ
  simp only
  have B := Lib.hid (alloc_below w (.cells #[.int .i64 a, .int .i64 b, .int .i64 c, .int .i64 d, .bool e, .int .i64 f] 33))
  have C0 := Lib.hid (fun W => ft_any a 1 16 W)
  generalize ft a (1) 16 = u0 at *
  have C1 := Lib.hid (fun W => tenth_any b W)
  generalize ft b (-1099511627776) 1099511627776 = u1 at *
  have C2 := Lib.hid (fun W => minutes_any c W)
  generalize ft c (0) 1048575 = u2 at *
  have C3 := Lib.hid (fun W => ft_any d 0 1048576 W)
  generalize ft d (0) 1048576 = u3 at *
  have C4 := Lib.hid (fun W => minutes_any f W)
  generalize ft f (0) 1048575 = u4 at *
  cases u0
  case false =>
    go_enter Try.func19, Try.ntmps19
    go_wp2_with fail
    refine (C0.out _).mono ?_
    rintro e w' ⟨rfl, rfl⟩
    go_wp2
    go_ret
    exact ⟨rfl, B.out⟩
  cases u1
  case false =>
    go_enter Try.func19, Try.ntmps19
    go_wp2_with fail
    refine (C0.out _).mono ?_
    rintro e w' ⟨rfl, rfl⟩
    go_wp2_with fail
    refine (C1.out _).mono ?_
    rintro e w' ⟨rfl, rfl⟩
    go_wp2
    go_ret
    exact ⟨rfl, B.out⟩
  cases u2
  case false =>
    go_enter Try.func19, Try.ntmps19
    go_wp2_with fail
    refine (C0.out _).mono ?_
    rintro e w' ⟨rfl, rfl⟩
    go_wp2_with fail
    refine (C1.out _).mono ?_
    rintro e w' ⟨rfl, rfl⟩
    go_wp2_with fail
    refine (C2.out _).mono ?_
    rintro e w' ⟨rfl, rfl⟩
    go_wp2
    go_ret
    exact ⟨rfl, B.out⟩
  cases u3
  case false =>
    go_enter Try.func19, Try.ntmps19
    go_wp2_with fail
    refine (C0.out _).mono ?_
    rintro e w' ⟨rfl, rfl⟩
    go_wp2_with fail
    refine (C1.out _).mono ?_
    rintro e w' ⟨rfl, rfl⟩
    go_wp2_with fail
    refine (C2.out _).mono ?_
    rintro e w' ⟨rfl, rfl⟩
    go_wp2_with fail
    refine (C3.out _).mono ?_
    rintro e w' ⟨rfl, rfl⟩
    go_wp2
    go_ret
    exact ⟨rfl, B.out⟩
  cases u4
  case false =>
    go_enter Try.func19, Try.ntmps19
    go_wp2_with fail
    refine (C0.out _).mono ?_
    rintro e w' ⟨rfl, rfl⟩
    go_wp2_with fail
    refine (C1.out _).mono ?_
    rintro e w' ⟨rfl, rfl⟩
    go_wp2_with fail
    refine (C2.out _).mono ?_
    rintro e w' ⟨rfl, rfl⟩
    go_wp2_with fail
    refine (C3.out _).mono ?_
    rintro e w' ⟨rfl, rfl⟩
    go_wp2_with fail
    refine (C4.out _).mono ?_
    rintro e w' ⟨rfl, rfl⟩
    go_wp2
    go_ret
    exact ⟨rfl, B.out⟩
  go_enter Try.func19, Try.ntmps19
  go_wp2_with fail
  refine (C0.out _).mono ?_
  rintro e w' ⟨rfl, rfl⟩
  go_wp2_with fail
  refine (C1.out _).mono ?_
  rintro e w' ⟨rfl, rfl⟩
  go_wp2_with fail
  refine (C2.out _).mono ?_
  rintro e w' ⟨rfl, rfl⟩
  go_wp2_with fail
  refine (C3.out _).mono ?_
  rintro e w' ⟨rfl, rfl⟩
  go_wp2_with fail
  refine (C4.out _).mono ?_
  rintro e w' ⟨rfl, rfl⟩
  go_wp2
  go_ret
  exact ⟨rfl, B.out⟩
set_option maxRecDepth 100000 in
set_option maxHeartbeats 2000000 in
theorem maybeP_any (x : Pd) (w : World) : Calls Try.prog 22 #[pval x] w fun e w' => e = .returned (.bool (rightP x)) ∧ Below w.heap.size w w' := by
  obtain ⟨a, b, c⟩ := x
  unfold pval rightP
  simp only
  have B := Lib.hid (alloc_below w (.cells #[.int .i64 a, .int .i64 b, .int .i64 c] 36))
  have C0 := Lib.hid (fun W => ft_any a 1 16 W)
  generalize ft a (1) 16 = u0 at *
  have C1 := Lib.hid (fun W => tenth_any b W)
  generalize ft b (-1099511627776) 1099511627776 = u1 at *
  have C2 := Lib.hid (fun W => ft_any c 0 4611686018427387904 W)
  generalize ft c (0) 4611686018427387904 = u2 at *
  cases u0
  case false =>
    go_enter Try.func22, Try.ntmps22
    go_wp2_with fail
    refine (C0.out _).mono ?_
    rintro e w' ⟨rfl, rfl⟩
    go_wp2
    go_ret
    exact ⟨rfl, B.out⟩
  cases u1
  case false =>
    go_enter Try.func22, Try.ntmps22
    go_wp2_with fail
    refine (C0.out _).mono ?_
    rintro e w' ⟨rfl, rfl⟩
    go_wp2_with fail
    refine (C1.out _).mono ?_
    rintro e w' ⟨rfl, rfl⟩
    go_wp2
    go_ret
    exact ⟨rfl, B.out⟩
  cases u2
  case false =>
    go_enter Try.func22, Try.ntmps22
    go_wp2_with fail
    refine (C0.out _).mono ?_
    rintro e w' ⟨rfl, rfl⟩
    go_wp2_with fail
    refine (C1.out _).mono ?_
    rintro e w' ⟨rfl, rfl⟩
    go_wp2_with fail
    refine (C2.out _).mono ?_
    rintro e w' ⟨rfl, rfl⟩
    go_wp2
    go_ret
    exact ⟨rfl, B.out⟩
  go_enter Try.func22, Try.ntmps22
  go_wp2_with fail
  refine (C0.out _).mono ?_
  rintro e w' ⟨rfl, rfl⟩
  go_wp2_with fail
  refine (C1.out _).mono ?_
  rintro e w' ⟨rfl, rfl⟩
  go_wp2_with fail
  refine (C2.out _).mono ?_
  rintro e w' ⟨rfl, rfl⟩
  go_wp2
  go_ret
  exact ⟨rfl, B.out⟩
set_option maxRecDepth 100000 in
set_option maxHeartbeats 4000000 in
theorem rrightZ_any (x : Zn) (w : World) : Calls Try.prog 21 #[zval x] w fun e w' => e = .returned (.bool (rightZ x)) ∧ Below w.heap.size w w' := by
  obtain ⟨a, b, c, d, e, f⟩ := x
  have C := Lib.hid (fun W => rten_any b W)
  have B := Lib.hid (alloc_below w (.cells #[.int .i64 a, .int .i64 b, .int .i64 c, .int .i64 d, .bool e, .int .i64 f] 33))
  have E : Hid (rightZ ⟨a, b, c, d, e, f⟩ = (ft a 1 16 && (ft b (-1099511627776) 1099511627776 && (ft c 0 1048575 && (ft d 0 1048576 && ft f 0 1048575))))) := Lib.hid rfl
  rw [E.out]
  clear E
  unfold zval
  generalize ft b (-1099511627776) 1099511627776 = u at *
  simp only
  cases u
  case false =>
    have E : Hid (((ft a 1 16 && (false && (ft c 0 1048575 && (ft d 0 1048576 && ft f 0 1048575))))) = false) := Lib.hid (by simp)
    go_enter Try.func21, Try.ntmps21
    go_wp2_with fail
    refine (C.out _).mono ?_
    rintro e w' ⟨rfl, rfl⟩
    go_wp2
    go_ret
    exact ⟨by rw [E.out]; rfl, B.out⟩
  by_cases ha0 : 1 ≤ a
  case neg =>
    have E : Hid (((ft a 1 16 && (true && (ft c 0 1048575 && (ft d 0 1048576 && ft f 0 1048575))))) = false) := Lib.hid (by simp [ft_f.2 (fun h : 1 ≤ a ∧ a ≤ 16 => ha0 h.1)])
    have k : decide (1 ≤ a) = false := by simpa using ha0
    go_enter Try.func21, Try.ntmps21
    go_wp2_with fail
    refine (C.out _).mono ?_
    rintro e w' ⟨rfl, rfl⟩
    go_wp2
    go_ret
    exact ⟨by rw [E.out]; rfl, B.out⟩
  by_cases ha1 : a ≤ 16
  case neg =>
    have E : Hid (((ft a 1 16 && (true && (ft c 0 1048575 && (ft d 0 1048576 && ft f 0 1048575))))) = false) := Lib.hid (by simp [ft_f.2 (fun h : 1 ≤ a ∧ a ≤ 16 => ha1 h.2)])
    have k : decide (a ≤ 16) = false := by simpa using ha1
    go_enter Try.func21, Try.ntmps21
    go_wp2_with fail
    refine (C.out _).mono ?_
    rintro e w' ⟨rfl, rfl⟩
    go_wp2
    go_ret
    exact ⟨by rw [E.out]; rfl, B.out⟩
  by_cases hc0 : 0 ≤ c
  case neg =>
    have E : Hid (((ft a 1 16 && (true && (ft c 0 1048575 && (ft d 0 1048576 && ft f 0 1048575))))) = false) := Lib.hid (by simp [ft_f.2 (fun h : 0 ≤ c ∧ c ≤ 1048575 => hc0 h.1)])
    have k : decide (0 ≤ c) = false := by simpa using hc0
    go_enter Try.func21, Try.ntmps21
    go_wp2_with fail
    refine (C.out _).mono ?_
    rintro e w' ⟨rfl, rfl⟩
    go_wp2
    go_ret
    exact ⟨by rw [E.out]; rfl, B.out⟩
  by_cases hc1 : c ≤ 1048575
  case neg =>
    have E : Hid (((ft a 1 16 && (true && (ft c 0 1048575 && (ft d 0 1048576 && ft f 0 1048575))))) = false) := Lib.hid (by simp [ft_f.2 (fun h : 0 ≤ c ∧ c ≤ 1048575 => hc1 h.2)])
    have k : decide (c ≤ 1048575) = false := by simpa using hc1
    go_enter Try.func21, Try.ntmps21
    go_wp2_with fail
    refine (C.out _).mono ?_
    rintro e w' ⟨rfl, rfl⟩
    go_wp2
    go_ret
    exact ⟨by rw [E.out]; rfl, B.out⟩
  by_cases hd0 : 0 ≤ d
  case neg =>
    have E : Hid (((ft a 1 16 && (true && (ft c 0 1048575 && (ft d 0 1048576 && ft f 0 1048575))))) = false) := Lib.hid (by simp [ft_f.2 (fun h : 0 ≤ d ∧ d ≤ 1048576 => hd0 h.1)])
    have k : decide (0 ≤ d) = false := by simpa using hd0
    go_enter Try.func21, Try.ntmps21
    go_wp2_with fail
    refine (C.out _).mono ?_
    rintro e w' ⟨rfl, rfl⟩
    go_wp2
    go_ret
    exact ⟨by rw [E.out]; rfl, B.out⟩
  by_cases hd1 : d ≤ 1048576
  case neg =>
    have E : Hid (((ft a 1 16 && (true && (ft c 0 1048575 && (ft d 0 1048576 && ft f 0 1048575))))) = false) := Lib.hid (by simp [ft_f.2 (fun h : 0 ≤ d ∧ d ≤ 1048576 => hd1 h.2)])
    have k : decide (d ≤ 1048576) = false := by simpa using hd1
    go_enter Try.func21, Try.ntmps21
    go_wp2_with fail
    refine (C.out _).mono ?_
    rintro e w' ⟨rfl, rfl⟩
    go_wp2
    go_ret
    exact ⟨by rw [E.out]; rfl, B.out⟩
  by_cases hf0 : 0 ≤ f
  case neg =>
    have E : Hid (((ft a 1 16 && (true && (ft c 0 1048575 && (ft d 0 1048576 && ft f 0 1048575))))) = false) := Lib.hid (by simp [ft_f.2 (fun h : 0 ≤ f ∧ f ≤ 1048575 => hf0 h.1)])
    have k : decide (0 ≤ f) = false := by simpa using hf0
    go_enter Try.func21, Try.ntmps21
    go_wp2_with fail
    refine (C.out _).mono ?_
    rintro e w' ⟨rfl, rfl⟩
    go_wp2
    go_ret
    exact ⟨by rw [E.out]; rfl, B.out⟩
  by_cases hf1 : f ≤ 1048575
  case neg =>
    have E : Hid (((ft a 1 16 && (true && (ft c 0 1048575 && (ft d 0 1048576 && ft f 0 1048575))))) = false) := Lib.hid (by simp [ft_f.2 (fun h : 0 ≤ f ∧ f ≤ 1048575 => hf1 h.2)])
    have k : decide (f ≤ 1048575) = false := by simpa using hf1
    go_enter Try.func21, Try.ntmps21
    go_wp2_with fail
    refine (C.out _).mono ?_
    rintro e w' ⟨rfl, rfl⟩
    go_wp2
    go_ret
    exact ⟨by rw [E.out]; rfl, B.out⟩
  have E : Hid (((ft a 1 16 && (true && (ft c 0 1048575 && (ft d 0 1048576 && ft f 0 1048575))))) = true) := Lib.hid (by simp [ft_t.2 ⟨ha0, ha1⟩, ft_t.2 ⟨hc0, hc1⟩, ft_t.2 ⟨hd0, hd1⟩, ft_t.2 ⟨hf0, hf1⟩])
  go_enter Try.func21, Try.ntmps21
  go_wp2_with fail
  refine (C.out _).mono ?_
  rintro e w' ⟨rfl, rfl⟩
  go_wp2
  go_ret
  exact ⟨by rw [E.out]; rfl, B.out⟩
set_option maxRecDepth 100000 in
set_option maxHeartbeats 4000000 in
theorem rrightP_any (x : Pd) (w : World) : Calls Try.prog 24 #[pval x] w fun e w' => e = .returned (.bool (rightP x)) ∧ Below w.heap.size w w' := by
  obtain ⟨a, b, c⟩ := x
  have C := Lib.hid (fun W => rten_any b W)
  have B := Lib.hid (alloc_below w (.cells #[.int .i64 a, .int .i64 b, .int .i64 c] 36))
  have E : Hid (rightP ⟨a, b, c⟩ = (ft a 1 16 && (ft b (-1099511627776) 1099511627776 && ft c 0 4611686018427387904))) := Lib.hid rfl
  rw [E.out]
  clear E
  unfold pval
  generalize ft b (-1099511627776) 1099511627776 = u at *
  simp only
  cases u
  case false =>
    have E : Hid (((ft a 1 16 && (false && ft c 0 4611686018427387904))) = false) := Lib.hid (by simp)
    go_enter Try.func24, Try.ntmps24
    go_wp2_with fail
    refine (C.out _).mono ?_
    rintro e w' ⟨rfl, rfl⟩
    go_wp2
    go_ret
    exact ⟨by rw [E.out]; rfl, B.out⟩
  by_cases ha0 : 1 ≤ a
  case neg =>
    have E : Hid (((ft a 1 16 && (true && ft c 0 4611686018427387904))) = false) := Lib.hid (by simp [ft_f.2 (fun h : 1 ≤ a ∧ a ≤ 16 => ha0 h.1)])
    have k : decide (1 ≤ a) = false := by simpa using ha0
    go_enter Try.func24, Try.ntmps24
    go_wp2_with fail
    refine (C.out _).mono ?_
    rintro e w' ⟨rfl, rfl⟩
    go_wp2
    go_ret
    exact ⟨by rw [E.out]; rfl, B.out⟩
  by_cases ha1 : a ≤ 16
  case neg =>
    have E : Hid (((ft a 1 16 && (true && ft c 0 4611686018427387904))) = false) := Lib.hid (by simp [ft_f.2 (fun h : 1 ≤ a ∧ a ≤ 16 => ha1 h.2)])
    have k : decide (a ≤ 16) = false := by simpa using ha1
    go_enter Try.func24, Try.ntmps24
    go_wp2_with fail
    refine (C.out _).mono ?_
    rintro e w' ⟨rfl, rfl⟩
    go_wp2
    go_ret
    exact ⟨by rw [E.out]; rfl, B.out⟩
  by_cases hc0 : 0 ≤ c
  case neg =>
    have E : Hid (((ft a 1 16 && (true && ft c 0 4611686018427387904))) = false) := Lib.hid (by simp [ft_f.2 (fun h : 0 ≤ c ∧ c ≤ 4611686018427387904 => hc0 h.1)])
    have k : decide (0 ≤ c) = false := by simpa using hc0
    go_enter Try.func24, Try.ntmps24
    go_wp2_with fail
    refine (C.out _).mono ?_
    rintro e w' ⟨rfl, rfl⟩
    go_wp2
    go_ret
    exact ⟨by rw [E.out]; rfl, B.out⟩
  by_cases hc1 : c ≤ 4611686018427387904
  case neg =>
    have E : Hid (((ft a 1 16 && (true && ft c 0 4611686018427387904))) = false) := Lib.hid (by simp [ft_f.2 (fun h : 0 ≤ c ∧ c ≤ 4611686018427387904 => hc1 h.2)])
    have k : decide (c ≤ 4611686018427387904) = false := by simpa using hc1
    go_enter Try.func24, Try.ntmps24
    go_wp2_with fail
    refine (C.out _).mono ?_
    rintro e w' ⟨rfl, rfl⟩
    go_wp2
    go_ret
    exact ⟨by rw [E.out]; rfl, B.out⟩
  have E : Hid (((ft a 1 16 && (true && ft c 0 4611686018427387904))) = true) := Lib.hid (by simp [ft_t.2 ⟨ha0, ha1⟩, ft_t.2 ⟨hc0, hc1⟩])
  go_enter Try.func24, Try.ntmps24
  go_wp2_with fail
  refine (C.out _).mono ?_
  rintro e w' ⟨rfl, rfl⟩
  go_wp2
  go_ret
  exact ⟨by rw [E.out]; rfl, B.out⟩
end Ms
end Go.Proofs.Ytpceoklacpcfkaa
