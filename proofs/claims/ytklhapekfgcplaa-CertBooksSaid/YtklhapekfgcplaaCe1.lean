/- Walks over the document's answer of layer 17: what may be, a certificate's bytes. No condition but those written. -/
import Derived.Test.YtklhapekfgcplaaCeMem
import Derived.Test.YtklhapekfgcplaaOb2
import Derived.Test.YtklhapekfgcplaaCkRef
import Derived.WalkSpells
import Derived.WalkKit
namespace Go.Proofs.Ytklhapekfgcplaa
open Go.RowKit

namespace Ce
theorem rmay_any (n : Int) (w : World) : Calls Try.prog 21 #[.int .i64 n] w fun e w' => e = .returned (.bool (mayB n)) ∧ w = w' := by
  by_cases h0 : n < 0
  · have HE := Lib.hid (show mayB n = false by unfold mayB; rw [decide_eq_false_iff_not]; omega)
    have t0 : decide (0 ≤ n) = false := by simp; omega
    clear h0
    go_enter Try.func21, Try.ntmps21
    go_wp2
    go_ret
    exact ⟨by rw [HE.out]; rfl, rfl⟩
  have t0 : decide (0 ≤ n) = true := by simp; omega
  by_cases h1 : 4611686018427387904 < n
  · have HE := Lib.hid (show mayB n = false by unfold mayB; rw [decide_eq_false_iff_not]; omega)
    have t1 : decide (n ≤ 4611686018427387904) = false := by simp; omega
    clear h0 h1
    go_enter Try.func21, Try.ntmps21
    go_wp2
    go_ret
    exact ⟨by rw [HE.out]; rfl, rfl⟩
  · have HE := Lib.hid (show mayB n = true by unfold mayB; rw [decide_eq_true_iff]; omega)
    have t1 : decide (n ≤ 4611686018427387904) = true := by simp; omega
    clear h0 h1
    go_enter Try.func21, Try.ntmps21
    go_wp2
    go_ret
    exact ⟨by rw [HE.out]; rfl, rfl⟩
theorem rmay_at {n : Int} {b : Bool} (h : mayB n = b) (w : World) : Calls Try.prog 21 #[.int .i64 n] w fun e w' => e = .returned (.bool b) ∧ w = w' := h ▸ rmay_any n w
set_option maxRecDepth 100000 in
set_option maxHeartbeats 8000000 in
theorem r17right_any (c : Ct) (w : World) : Calls Try.prog 7 #[cval c] w fun e w' => e = .returned (.bool (rightB c)) ∧ Below w.heap.size w w' := by
  have HR := Lib.hid (show rightB c = (mayB c.id && (mayB c.order && (mayB c.lot && (mayB c.product && (mayB c.units && (mayB c.minute && (mayB c.exposure && mayB c.allowance))))))) by simp [rightB, fld])
  obtain ⟨ka, kb, kc, kd, ke, kf, kg, kh⟩ := c
  simp only [cval] at HR ⊢
  have B1 := Lib.hid (alloc_below w (.cells #[.int .i64 ka, .int .i64 kb, .int .i64 kc, .int .i64 kd, .int .i64 ke, .int .i64 kf, .int .i64 kg, .int .i64 kh] 23))
  have X1 := Lib.hid (Lies.new w 23 #[.int .i64 ka, .int .i64 kb, .int .i64 kc, .int .i64 kd, .int .i64 ke, .int .i64 kf, .int .i64 kg, .int .i64 kh])
  obtain ⟨w1, hw1⟩ : ∃ w1, w.alloc (.cells #[.int .i64 ka, .int .i64 kb, .int .i64 kc, .int .i64 kd, .int .i64 ke, .int .i64 kf, .int .i64 kg, .int .i64 kh] 23) = w1 := ⟨_, rfl⟩
  rw [hw1] at B1 X1
  have x0 : w1.cell? ⟨w.heap.size, 0, none⟩ = some (.int .i64 ka) := X1.out.cell 0
  have x1 : w1.cell? ⟨w.heap.size, 1, none⟩ = some (.int .i64 kb) := X1.out.cell 1
  have x2 : w1.cell? ⟨w.heap.size, 2, none⟩ = some (.int .i64 kc) := X1.out.cell 2
  have x3 : w1.cell? ⟨w.heap.size, 3, none⟩ = some (.int .i64 kd) := X1.out.cell 3
  have x4 : w1.cell? ⟨w.heap.size, 4, none⟩ = some (.int .i64 ke) := X1.out.cell 4
  have x5 : w1.cell? ⟨w.heap.size, 5, none⟩ = some (.int .i64 kf) := X1.out.cell 5
  have x6 : w1.cell? ⟨w.heap.size, 6, none⟩ = some (.int .i64 kg) := X1.out.cell 6
  have x7 : w1.cell? ⟨w.heap.size, 7, none⟩ = some (.int .i64 kh) := X1.out.cell 7
  cases c0 : mayB ka with
  | false =>
    have R0 := Lib.hid (fun W => rmay_at c0 W)
    have HE := Lib.hid (show rightB ⟨ka, kb, kc, kd, ke, kf, kg, kh⟩ = false by rw [HR.out, c0]; simp)
    clear HR c0
    clear X1
    go_enter Try.func7, Try.ntmps7
    go_wp2_with fail
    refine (R0.out _).mono ?_
    rintro e w' ⟨rfl, rfl⟩
    clear hw1
    go_wp2
    go_ret
    exact ⟨by rw [HE.out]; rfl, B1.out⟩
  | true =>
    have R0 := Lib.hid (fun W => rmay_at c0 W)
    cases c1 : mayB kb with
    | false =>
      have R1 := Lib.hid (fun W => rmay_at c1 W)
      have HE := Lib.hid (show rightB ⟨ka, kb, kc, kd, ke, kf, kg, kh⟩ = false by rw [HR.out, c0, c1]; simp)
      clear HR c0 c1
      clear X1
      go_enter Try.func7, Try.ntmps7
      go_wp2_with fail
      refine (R0.out _).mono ?_
      rintro e w' ⟨rfl, rfl⟩
      clear hw1
      go_wp2_with fail
      refine (R1.out _).mono ?_
      rintro e w' ⟨rfl, rfl⟩
      go_wp2
      go_ret
      exact ⟨by rw [HE.out]; rfl, B1.out⟩
    | true =>
      have R1 := Lib.hid (fun W => rmay_at c1 W)
      cases c2 : mayB kc with
      | false =>
        have R2 := Lib.hid (fun W => rmay_at c2 W)
        have HE := Lib.hid (show rightB ⟨ka, kb, kc, kd, ke, kf, kg, kh⟩ = false by rw [HR.out, c0, c1, c2]; simp)
        clear HR c0 c1 c2
        clear X1
        go_enter Try.func7, Try.ntmps7
        go_wp2_with fail
        refine (R0.out _).mono ?_
        rintro e w' ⟨rfl, rfl⟩
        clear hw1
        go_wp2_with fail
        refine (R1.out _).mono ?_
        rintro e w' ⟨rfl, rfl⟩
        go_wp2_with fail
        refine (R2.out _).mono ?_
        rintro e w' ⟨rfl, rfl⟩
        go_wp2
        go_ret
        exact ⟨by rw [HE.out]; rfl, B1.out⟩
      | true =>
        have R2 := Lib.hid (fun W => rmay_at c2 W)
        cases c3 : mayB kd with
        | false =>
          have R3 := Lib.hid (fun W => rmay_at c3 W)
          have HE := Lib.hid (show rightB ⟨ka, kb, kc, kd, ke, kf, kg, kh⟩ = false by rw [HR.out, c0, c1, c2, c3]; simp)
          clear HR c0 c1 c2 c3
          clear X1
          go_enter Try.func7, Try.ntmps7
          go_wp2_with fail
          refine (R0.out _).mono ?_
          rintro e w' ⟨rfl, rfl⟩
          clear hw1
          go_wp2_with fail
          refine (R1.out _).mono ?_
          rintro e w' ⟨rfl, rfl⟩
          go_wp2_with fail
          refine (R2.out _).mono ?_
          rintro e w' ⟨rfl, rfl⟩
          go_wp2_with fail
          refine (R3.out _).mono ?_
          rintro e w' ⟨rfl, rfl⟩
          go_wp2
          go_ret
          exact ⟨by rw [HE.out]; rfl, B1.out⟩
        | true =>
          have R3 := Lib.hid (fun W => rmay_at c3 W)
          cases c4 : mayB ke with
          | false =>
            have R4 := Lib.hid (fun W => rmay_at c4 W)
            have HE := Lib.hid (show rightB ⟨ka, kb, kc, kd, ke, kf, kg, kh⟩ = false by rw [HR.out, c0, c1, c2, c3, c4]; simp)
            clear HR c0 c1 c2 c3 c4
            clear X1
            go_enter Try.func7, Try.ntmps7
            go_wp2_with fail
            refine (R0.out _).mono ?_
            rintro e w' ⟨rfl, rfl⟩
            clear hw1
            go_wp2_with fail
            refine (R1.out _).mono ?_
            rintro e w' ⟨rfl, rfl⟩
            go_wp2_with fail
            refine (R2.out _).mono ?_
            rintro e w' ⟨rfl, rfl⟩
            go_wp2_with fail
            refine (R3.out _).mono ?_
            rintro e w' ⟨rfl, rfl⟩
            go_wp2_with fail
            refine (R4.out _).mono ?_
            rintro e w' ⟨rfl, rfl⟩
            go_wp2
            go_ret
            exact ⟨by rw [HE.out]; rfl, B1.out⟩
          | true =>
            have R4 := Lib.hid (fun W => rmay_at c4 W)
            cases c5 : mayB kf with
            | false =>
              have R5 := Lib.hid (fun W => rmay_at c5 W)
              have HE := Lib.hid (show rightB ⟨ka, kb, kc, kd, ke, kf, kg, kh⟩ = false by rw [HR.out, c0, c1, c2, c3, c4, c5]; simp)
              clear HR c0 c1 c2 c3 c4 c5
              clear X1
              go_enter Try.func7, Try.ntmps7
              go_wp2_with fail
              refine (R0.out _).mono ?_
              rintro e w' ⟨rfl, rfl⟩
              clear hw1
              go_wp2_with fail
              refine (R1.out _).mono ?_
              rintro e w' ⟨rfl, rfl⟩
              go_wp2_with fail
              refine (R2.out _).mono ?_
              rintro e w' ⟨rfl, rfl⟩
              go_wp2_with fail
              refine (R3.out _).mono ?_
              rintro e w' ⟨rfl, rfl⟩
              go_wp2_with fail
              refine (R4.out _).mono ?_
              rintro e w' ⟨rfl, rfl⟩
              go_wp2_with fail
              refine (R5.out _).mono ?_
              rintro e w' ⟨rfl, rfl⟩
              go_wp2
              go_ret
              exact ⟨by rw [HE.out]; rfl, B1.out⟩
            | true =>
              have R5 := Lib.hid (fun W => rmay_at c5 W)
              cases c6 : mayB kg with
              | false =>
                have R6 := Lib.hid (fun W => rmay_at c6 W)
                have HE := Lib.hid (show rightB ⟨ka, kb, kc, kd, ke, kf, kg, kh⟩ = false by rw [HR.out, c0, c1, c2, c3, c4, c5, c6]; simp)
                clear HR c0 c1 c2 c3 c4 c5 c6
                clear X1
                go_enter Try.func7, Try.ntmps7
                go_wp2_with fail
                refine (R0.out _).mono ?_
                rintro e w' ⟨rfl, rfl⟩
                clear hw1
                go_wp2_with fail
                refine (R1.out _).mono ?_
                rintro e w' ⟨rfl, rfl⟩
                go_wp2_with fail
                refine (R2.out _).mono ?_
                rintro e w' ⟨rfl, rfl⟩
                go_wp2_with fail
                refine (R3.out _).mono ?_
                rintro e w' ⟨rfl, rfl⟩
                go_wp2_with fail
                refine (R4.out _).mono ?_
                rintro e w' ⟨rfl, rfl⟩
                go_wp2_with fail
                refine (R5.out _).mono ?_
                rintro e w' ⟨rfl, rfl⟩
                go_wp2_with fail
                refine (R6.out _).mono ?_
                rintro e w' ⟨rfl, rfl⟩
                go_wp2
                go_ret
                exact ⟨by rw [HE.out]; rfl, B1.out⟩
              | true =>
                have R6 := Lib.hid (fun W => rmay_at c6 W)
                cases c7 : mayB kh with
                | false =>
                  have R7 := Lib.hid (fun W => rmay_at c7 W)
                  have HE := Lib.hid (show rightB ⟨ka, kb, kc, kd, ke, kf, kg, kh⟩ = false by rw [HR.out, c0, c1, c2, c3, c4, c5, c6, c7]; simp)
                  clear HR c0 c1 c2 c3 c4 c5 c6 c7
                  clear X1
                  go_enter Try.func7, Try.ntmps7
                  go_wp2_with fail
                  refine (R0.out _).mono ?_
                  rintro e w' ⟨rfl, rfl⟩
                  clear hw1
                  go_wp2_with fail
                  refine (R1.out _).mono ?_
                  rintro e w' ⟨rfl, rfl⟩
                  go_wp2_with fail
                  refine (R2.out _).mono ?_
                  rintro e w' ⟨rfl, rfl⟩
                  go_wp2_with fail
                  refine (R3.out _).mono ?_
                  rintro e w' ⟨rfl, rfl⟩
                  go_wp2_with fail
                  refine (R4.out _).mono ?_
                  rintro e w' ⟨rfl, rfl⟩
                  go_wp2_with fail
                  refine (R5.out _).mono ?_
                  rintro e w' ⟨rfl, rfl⟩
                  go_wp2_with fail
                  refine (R6.out _).mono ?_
                  rintro e w' ⟨rfl, rfl⟩
                  go_wp2_with fail
                  refine (R7.out _).mono ?_
                  rintro e w' ⟨rfl, rfl⟩
                  go_wp2
                  go_ret
                  exact ⟨by rw [HE.out]; rfl, B1.out⟩
                | true =>
                  have R7 := Lib.hid (fun W => rmay_at c7 W)
                  have HE := Lib.hid (show rightB ⟨ka, kb, kc, kd, ke, kf, kg, kh⟩ = true by rw [HR.out, c0, c1, c2, c3, c4, c5, c6, c7]; rfl)
                  clear HR c0 c1 c2 c3 c4 c5 c6 c7
                  clear X1
                  go_enter Try.func7, Try.ntmps7
                  go_wp2_with fail
                  refine (R0.out _).mono ?_
                  rintro e w' ⟨rfl, rfl⟩
                  clear hw1
                  go_wp2_with fail
                  refine (R1.out _).mono ?_
                  rintro e w' ⟨rfl, rfl⟩
                  go_wp2_with fail
                  refine (R2.out _).mono ?_
                  rintro e w' ⟨rfl, rfl⟩
                  go_wp2_with fail
                  refine (R3.out _).mono ?_
                  rintro e w' ⟨rfl, rfl⟩
                  go_wp2_with fail
                  refine (R4.out _).mono ?_
                  rintro e w' ⟨rfl, rfl⟩
                  go_wp2_with fail
                  refine (R5.out _).mono ?_
                  rintro e w' ⟨rfl, rfl⟩
                  go_wp2_with fail
                  refine (R6.out _).mono ?_
                  rintro e w' ⟨rfl, rfl⟩
                  go_wp2_with fail
                  refine (R7.out _).mono ?_
                  rintro e w' ⟨rfl, rfl⟩
                  go_wp2
                  go_ret
                  exact ⟨by rw [HE.out]; rfl, B1.out⟩
end Ce
end Go.Proofs.Ytklhapekfgcplaa
