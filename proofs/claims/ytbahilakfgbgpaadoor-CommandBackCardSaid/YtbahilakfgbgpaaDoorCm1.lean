/- Commands in memory; walks over the document's answer of layer 18: how many numbers a kind has, what may be. No condition but those written. -/
import Derived.Test.YtbahilakfgbgpaaDoorCmNum
import Derived.Test.YtbahilakfgbgpaaDoorMem
import Derived.Lib.Hide
import Derived.WalkKit
namespace Go.Proofs.YtbahilakfgbgpaaDoor
open Go.RowKit

namespace Cm
/-- A command, and where its bytes lie. -/
structure Cv where
  x : Cm
  p : Option Addr
  n : Nat
  c : Nat
def cval (y : Cv) : Value := .agg #[.int .i64 y.x.kind, .int .i64 y.x.a, .int .i64 y.x.b, .int .i64 y.x.c, .int .i64 y.x.d, .int .i64 y.x.e, .slice y.p y.n y.c]
def ccells (y : Cv) : List Value := [.int .i64 y.x.kind, .int .i64 y.x.a, .int .i64 y.x.b, .int .i64 y.x.c, .int .i64 y.x.d, .int .i64 y.x.e, .slice y.p y.n y.c]
theorem ccells_len (y : Cv) : (ccells y).length = 7 := rfl
/-- Its bytes read as such. -/
def Bt (W : World) (y : Cv) : Prop := At W y.p y.n y.x.bytes ∧ y.n ≤ y.c
theorem Bt.keep {w w' : World} {y : Cv} (h : Bt w y) (hb : Below w.heap.size w w') : Bt w' y := ⟨h.1.keep hb, h.2⟩
theorem Bt.len {w : World} {y : Cv} (h : Bt w y) : y.x.bytes.length = y.n := h.1.1
theorem r18num_any (k : Int) (w : World) : Calls Tryd.prog 13 #[.int .i64 k] w fun e w' => e = .returned (.int .i64 (cnt k)) ∧ w = w' := by
  by_cases h : 0 ≤ k ∧ k ≤ 15
  · have h16 : k = 0 ∨ k = 1 ∨ k = 2 ∨ k = 3 ∨ k = 4 ∨ k = 5 ∨ k = 6 ∨ k = 7 ∨ k = 8 ∨ k = 9 ∨ k = 10 ∨ k = 11 ∨ k = 12 ∨ k = 13 ∨ k = 14 ∨ k = 15 := by omega
    clear h
    rcases h16 with rfl | rfl | rfl | rfl | rfl | rfl | rfl | rfl | rfl | rfl | rfl | rfl | rfl | rfl | rfl | rfl
    all_goals
      go_enter Tryd.func13, Tryd.ntmps13
      go_wp2
      go_ret
      exact ⟨rfl, rfl⟩
  · have E : cnt k = -1 := by
      unfold cnt
      repeat' split
      all_goals omega
    rw [E]
    have t0 : (k == 0) = false := by rw [beq_eq_false_iff_ne]; omega
    have t1 : (k == 1) = false := by rw [beq_eq_false_iff_ne]; omega
    have t2 : (k == 2) = false := by rw [beq_eq_false_iff_ne]; omega
    have t3 : (k == 3) = false := by rw [beq_eq_false_iff_ne]; omega
    have t4 : (k == 4) = false := by rw [beq_eq_false_iff_ne]; omega
    have t5 : (k == 5) = false := by rw [beq_eq_false_iff_ne]; omega
    have t6 : (k == 6) = false := by rw [beq_eq_false_iff_ne]; omega
    have t7 : (k == 7) = false := by rw [beq_eq_false_iff_ne]; omega
    have t8 : (k == 8) = false := by rw [beq_eq_false_iff_ne]; omega
    have t9 : (k == 9) = false := by rw [beq_eq_false_iff_ne]; omega
    have t10 : (k == 10) = false := by rw [beq_eq_false_iff_ne]; omega
    have t11 : (k == 11) = false := by rw [beq_eq_false_iff_ne]; omega
    have t12 : (k == 12) = false := by rw [beq_eq_false_iff_ne]; omega
    have t13 : (k == 13) = false := by rw [beq_eq_false_iff_ne]; omega
    have t14 : (k == 14) = false := by rw [beq_eq_false_iff_ne]; omega
    have t15 : (k == 15) = false := by rw [beq_eq_false_iff_ne]; omega
    clear E h
    go_enter Tryd.func13, Tryd.ntmps13
    go_wp2
    go_ret
    exact ⟨rfl, rfl⟩
theorem r18num_below (k : Int) (w : World) : Calls Tryd.prog 13 #[.int .i64 k] w fun e w' => e = .returned (.int .i64 (cnt k)) ∧ Below w.heap.size w w' :=
  (r18num_any k w).mono fun _ _ h => ⟨h.1, h.2 ▸ Below.refl _ _⟩
set_option maxRecDepth 100000 in
set_option maxHeartbeats 4000000 in
theorem r18nth_any (y : Cv) (i : Nat) (hi : i < 5) (w : World) : Calls Tryd.prog 25 #[cval y, .int .i64 (i : Int)] w fun e w' => e = .returned (.int .i64 (nth y.x i)) ∧ Below w.heap.size w w' := by
  obtain ⟨⟨ka, kb, kc, kd, ke, kf, kl⟩, kp, kn, kq⟩ := y
  simp only [cval]
  have B0 := Lib.hid (alloc_below w (.cells #[.int .i64 ka, .int .i64 kb, .int .i64 kc, .int .i64 kd, .int .i64 ke, .int .i64 kf, .slice kp kn kq] 25))
  have h5 : i = 0 ∨ i = 1 ∨ i = 2 ∨ i = 3 ∨ i = 4 := by omega
  clear hi
  rcases h5 with rfl | rfl | rfl | rfl | rfl
  all_goals
    go_enter Tryd.func25, Tryd.ntmps25
    go_wp2
    go_ret
    exact ⟨rfl, B0.out⟩
set_option maxRecDepth 100000 in
set_option maxHeartbeats 4000000 in
theorem r18right_any (y : Cv) (w : World) (hl : y.x.bytes.length = y.n) (hn : y.n ≤ 1000000) : Calls Tryd.prog 15 #[cval y] w fun e w' => e = .returned (.bool (rightB y.x)) ∧ Below w.heap.size w w' := by
  have N := Lib.hid (fun W => r18num_below y.x.kind W)
  have T := Lib.hid (fun i (hi : i < 5) W => r18nth_any y i hi W)
  have RI := Lib.hid (right_iff (c := y.x))
  have CB := cnt_bd y.x.kind
  obtain ⟨⟨ka, kb, kc, kd, ke, kf, kl⟩, kp, kn, kq⟩ := y
  simp only at hl hn N RI CB
  simp only [cval] at T ⊢
  generalize hnk : cnt ka = nk at *
  have HK := Lib.hid hnk
  clear hnk
  have hn3 : ((kn : Nat) : Int) ≤ 1000000 := by omega
  have HL := Lib.hid hl
  clear hl
  by_cases h0 : nk < 0
  · have t0 : decide (nk < 0) = true := by simpa using h0
    have E := Lib.hid (show rightB (⟨ka, kb, kc, kd, ke, kf, kl⟩ : Cm) = false from by
      rw [← Bool.not_eq_true, RI.out]
      exact fun h => by omega)
    have B_0 := Lib.hid (Below.refl w.heap.size w)
    have B_1 := Lib.hid (B_0.out.alloc B_0.out.size (.cells #[.int .i64 ka, .int .i64 kb, .int .i64 kc, .int .i64 kd, .int .i64 ke, .int .i64 kf, .slice kp kn kq] 25))
    clear B_0
    have C_1 := Lib.hid (Lies.new w 25 #[.int .i64 ka, .int .i64 kb, .int .i64 kc, .int .i64 kd, .int .i64 ke, .int .i64 kf, .slice kp kn kq])
    have c0_1 : (w.alloc (.cells #[.int .i64 ka, .int .i64 kb, .int .i64 kc, .int .i64 kd, .int .i64 ke, .int .i64 kf, .slice kp kn kq] 25)).cell? ⟨w.heap.size, 0, none⟩ = some (.int .i64 ka) := C_1.out.cell 0
    go_enter Tryd.func15, Tryd.ntmps15
    go_wp2_with fail
    refine (N.out _).mono ?_
    rintro e w2 ⟨rfl, hb⟩
    clear c0_1
    have B_2 := Lib.hid (B_1.out.trans (hb.mono B_1.out.size))
    have C_2 := Lib.hid (C_1.out.below hb C_1.out.lt)
    clear B_1 C_1
    clear hb 
    have c0_2 : w2.cell? ⟨w.heap.size, 0, none⟩ = some (.int .i64 ka) := C_2.out.cell 0
    have c6_2 : w2.cell? ⟨w.heap.size, 6, none⟩ = some (.slice kp kn kq) := C_2.out.cell 6
    go_wp2
    go_ret
    exact ⟨by rw [E.out]; rfl, B_2.out⟩
  · have t0 : decide (nk < 0) = false := by simpa using h0
    by_cases h1 : 64 < kn
    · have t1 : decide (((kn : Nat) : Int) > 64) = true := by simp; omega
      have E := Lib.hid (show rightB (⟨ka, kb, kc, kd, ke, kf, kl⟩ : Cm) = false from by
        rw [← Bool.not_eq_true, RI.out]
        exact fun h => by have := h.2.1; rw [HL.out] at this; omega)
      have B_0 := Lib.hid (Below.refl w.heap.size w)
      have B_1 := Lib.hid (B_0.out.alloc B_0.out.size (.cells #[.int .i64 ka, .int .i64 kb, .int .i64 kc, .int .i64 kd, .int .i64 ke, .int .i64 kf, .slice kp kn kq] 25))
      clear B_0
      have C_1 := Lib.hid (Lies.new w 25 #[.int .i64 ka, .int .i64 kb, .int .i64 kc, .int .i64 kd, .int .i64 ke, .int .i64 kf, .slice kp kn kq])
      have c0_1 : (w.alloc (.cells #[.int .i64 ka, .int .i64 kb, .int .i64 kc, .int .i64 kd, .int .i64 ke, .int .i64 kf, .slice kp kn kq] 25)).cell? ⟨w.heap.size, 0, none⟩ = some (.int .i64 ka) := C_1.out.cell 0
      go_enter Tryd.func15, Tryd.ntmps15
      go_wp2_with fail
      refine (N.out _).mono ?_
      rintro e w2 ⟨rfl, hb⟩
      clear c0_1
      have B_2 := Lib.hid (B_1.out.trans (hb.mono B_1.out.size))
      have C_2 := Lib.hid (C_1.out.below hb C_1.out.lt)
      clear B_1 C_1
      clear hb 
      have c0_2 : w2.cell? ⟨w.heap.size, 0, none⟩ = some (.int .i64 ka) := C_2.out.cell 0
      have c6_2 : w2.cell? ⟨w.heap.size, 6, none⟩ = some (.slice kp kn kq) := C_2.out.cell 6
      go_wp2
      go_ret
      exact ⟨by rw [E.out]; rfl, B_2.out⟩
    · have t1 : decide (((kn : Nat) : Int) > 64) = false := by simp; omega
      by_cases h2 : ka ≠ 0 ∧ 0 < kn
      · have t2 : (ka != 0) = true := by simpa using h2.1
        have t3 : decide (((kn : Nat) : Int) > 0) = true := by simp; omega
        have t4 : 0 < kn := h2.2
        have E := Lib.hid (show rightB (⟨ka, kb, kc, kd, ke, kf, kl⟩ : Cm) = false from by
          rw [← Bool.not_eq_true, RI.out]
          exact fun h => by
            rcases h.2.2.1 with e | e
            · exact h2.1 e
            · rw [e] at HL
              have := HL.out
              simp at this
              omega)
        have B_0 := Lib.hid (Below.refl w.heap.size w)
        have B_1 := Lib.hid (B_0.out.alloc B_0.out.size (.cells #[.int .i64 ka, .int .i64 kb, .int .i64 kc, .int .i64 kd, .int .i64 ke, .int .i64 kf, .slice kp kn kq] 25))
        clear B_0
        have C_1 := Lib.hid (Lies.new w 25 #[.int .i64 ka, .int .i64 kb, .int .i64 kc, .int .i64 kd, .int .i64 ke, .int .i64 kf, .slice kp kn kq])
        have c0_1 : (w.alloc (.cells #[.int .i64 ka, .int .i64 kb, .int .i64 kc, .int .i64 kd, .int .i64 ke, .int .i64 kf, .slice kp kn kq] 25)).cell? ⟨w.heap.size, 0, none⟩ = some (.int .i64 ka) := C_1.out.cell 0
        go_enter Tryd.func15, Tryd.ntmps15
        go_wp2_with fail
        refine (N.out _).mono ?_
        rintro e w2 ⟨rfl, hb⟩
        clear c0_1
        have B_2 := Lib.hid (B_1.out.trans (hb.mono B_1.out.size))
        have C_2 := Lib.hid (C_1.out.below hb C_1.out.lt)
        clear B_1 C_1
        clear hb 
        have c0_2 : w2.cell? ⟨w.heap.size, 0, none⟩ = some (.int .i64 ka) := C_2.out.cell 0
        have c6_2 : w2.cell? ⟨w.heap.size, 6, none⟩ = some (.slice kp kn kq) := C_2.out.cell 6
        go_wp2
        go_ret
        exact ⟨by rw [E.out]; rfl, B_2.out⟩
      · by_cases h3 : ka = 0
        · have t2 : (ka != 0) = false := by simp [h3]
          have h3' := Lib.hid h3
          clear h2 h3
          have B_0 := Lib.hid (Below.refl w.heap.size w)
          have B_1 := Lib.hid (B_0.out.alloc B_0.out.size (.cells #[.int .i64 ka, .int .i64 kb, .int .i64 kc, .int .i64 kd, .int .i64 ke, .int .i64 kf, .slice kp kn kq] 25))
          clear B_0
          have C_1 := Lib.hid (Lies.new w 25 #[.int .i64 ka, .int .i64 kb, .int .i64 kc, .int .i64 kd, .int .i64 ke, .int .i64 kf, .slice kp kn kq])
          have c0_1 : (w.alloc (.cells #[.int .i64 ka, .int .i64 kb, .int .i64 kc, .int .i64 kd, .int .i64 ke, .int .i64 kf, .slice kp kn kq] 25)).cell? ⟨w.heap.size, 0, none⟩ = some (.int .i64 ka) := C_1.out.cell 0
          go_enter Tryd.func15, Tryd.ntmps15
          go_wp2_with fail
          refine (N.out _).mono ?_
          rintro e w2 ⟨rfl, hb⟩
          clear c0_1
          have B_2 := Lib.hid (B_1.out.trans (hb.mono B_1.out.size))
          have C_2 := Lib.hid (C_1.out.below hb C_1.out.lt)
          clear B_1 C_1
          clear hb 
          have c0_2 : w2.cell? ⟨w.heap.size, 0, none⟩ = some (.int .i64 ka) := C_2.out.cell 0
          have c6_2 : w2.cell? ⟨w.heap.size, 6, none⟩ = some (.slice kp kn kq) := C_2.out.cell 6
          have H0 : Hid (∀ j : Nat, j < nk.toNat → nk ≤ (j : Int) → nth ⟨ka, kb, kc, kd, ke, kf, kl⟩ j = 0) := Lib.hid (fun j hj hj2 => by omega)
          obtain ⟨m, hm⟩ : ∃ m : Nat, nk = (m : Int) := ⟨nk.toNat, by omega⟩
          subst hm
          have hm5 : m ≤ 5 := by omega
          have hm6 : (m : Int) ≤ 5 := by omega
          clear c0_2
          clear c6_2
          have SZ := Lib.hid (Below.refl w2.heap.size w2)
          have c0_2 : w2.cell? ⟨w.heap.size, 0, none⟩ = some (.int .i64 ka) := C_2.out.cell 0
          have c6_2 : w2.cell? ⟨w.heap.size, 6, none⟩ = some (.slice kp kn kq) := C_2.out.cell 6
          go_wp2_with fail
          clear c0_2 c6_2
          go_loopw [4] (fun i wr => ∃ k : Nat, m ≤ k ∧ k ≤ 5 ∧ i = .int .i64 k ∧ Hid (∀ j : Nat, j < k → (m : Int) ≤ (j : Int) → nth ⟨ka, kb, kc, kd, ke, kf, kl⟩ j = 0) ∧ Hid (Below w2.heap.size w2 wr)) (fun i _ => 5 - (RowKit.intOf i).toNat)
          case atStart => exact ⟨m, Nat.le_refl _, hm5, rfl, Lib.hid (fun j hj hj2 => by omega), SZ⟩
          case round =>
            clear SZ H0
            obtain ⟨k, hmk, hk5, rfl, HZ, BX⟩ := hrel
            by_cases hlt : k < 5
            · have hk6 : (k : Int) < 5 := by omega
              have CR := Lib.hid (C_2.out.below BX.out C_2.out.lt)
              have c0 : wr.cell? ⟨w.heap.size, 0, none⟩ = some (.int .i64 ka) := CR.out.cell 0
              have c1 : wr.cell? ⟨w.heap.size, 1, none⟩ = some (.int .i64 kb) := CR.out.cell 1
              have c2 : wr.cell? ⟨w.heap.size, 2, none⟩ = some (.int .i64 kc) := CR.out.cell 2
              have c3 : wr.cell? ⟨w.heap.size, 3, none⟩ = some (.int .i64 kd) := CR.out.cell 3
              have c4 : wr.cell? ⟨w.heap.size, 4, none⟩ = some (.int .i64 ke) := CR.out.cell 4
              have c5 : wr.cell? ⟨w.heap.size, 5, none⟩ = some (.int .i64 kf) := CR.out.cell 5
              have c6 : wr.cell? ⟨w.heap.size, 6, none⟩ = some (.slice kp kn kq) := CR.out.cell 6
              go_wp2_with fail
              refine (T.out k hlt _).mono ?_
              rintro e w2 ⟨rfl, hb⟩
              have B2 := Lib.hid (BX.out.trans (hb.mono BX.out.size))
              clear hb c0 c1 c2 c3 c4 c5 c6 CR
              by_cases hz : nth ⟨ka, kb, kc, kd, ke, kf, kl⟩ k = 0
              · have t9 : (nth ⟨ka, kb, kc, kd, ke, kf, kl⟩ k != 0) = false := by simp [hz]
                have HZ2 : Hid (∀ j : Nat, j < k + 1 → (m : Int) ≤ (j : Int) → nth ⟨ka, kb, kc, kd, ke, kf, kl⟩ j = 0) := Lib.hid (fun j hj hj2 => by
                  by_cases e : j = k
                  · rw [e]
                    exact hz
                  · exact HZ.out j (by omega) hj2)
                clear hz HZ
                generalize nth ⟨ka, kb, kc, kd, ke, kf, kl⟩ k = z at t9 ⊢
                go_wp2
                go_roundw
                case rel => exact ⟨k + 1, by omega, by omega, by go_num, HZ2, B2⟩
                case measure => simp [RowKit.intOf]; omega
              · have t9 : (nth ⟨ka, kb, kc, kd, ke, kf, kl⟩ k != 0) = true := by simp [hz]
                have E := Lib.hid (show rightB (⟨ka, kb, kc, kd, ke, kf, kl⟩ : Cm) = false from by
                  rw [← Bool.not_eq_true, RI.out]
                  exact fun h => hz (h.2.2.2 k hlt (by omega)))
                clear hz HZ
                generalize nth ⟨ka, kb, kc, kd, ke, kf, kl⟩ k = z at t9 ⊢
                go_wp2
                go_ret
                exact ⟨by rw [E.out]; rfl, B_2.out.trans (B2.out.mono B_2.out.size)⟩
            · obtain rfl : k = 5 := by omega
              have E := Lib.hid (show rightB (⟨ka, kb, kc, kd, ke, kf, kl⟩ : Cm) = true from by
                rw [RI.out]
                refine ⟨by omega, by rw [HL.out]; omega, ?_, fun i hi hi2 => HZ.out i hi hi2⟩
                exact .inl h3'.out)
              go_wp2
              go_ret
              exact ⟨by rw [E.out]; rfl, B_2.out.trans (BX.out.mono B_2.out.size)⟩
        · have t2 : (ka != 0) = true := by simp [h3]
          have t3 : decide (((kn : Nat) : Int) > 0) = false := by simp; omega
          have h4 : kn = 0 := by omega
          have h4' := Lib.hid h4
          have h5 : ¬ 0 < kn := by omega
          clear h2 h3 h4
          have B_0 := Lib.hid (Below.refl w.heap.size w)
          have B_1 := Lib.hid (B_0.out.alloc B_0.out.size (.cells #[.int .i64 ka, .int .i64 kb, .int .i64 kc, .int .i64 kd, .int .i64 ke, .int .i64 kf, .slice kp kn kq] 25))
          clear B_0
          have C_1 := Lib.hid (Lies.new w 25 #[.int .i64 ka, .int .i64 kb, .int .i64 kc, .int .i64 kd, .int .i64 ke, .int .i64 kf, .slice kp kn kq])
          have c0_1 : (w.alloc (.cells #[.int .i64 ka, .int .i64 kb, .int .i64 kc, .int .i64 kd, .int .i64 ke, .int .i64 kf, .slice kp kn kq] 25)).cell? ⟨w.heap.size, 0, none⟩ = some (.int .i64 ka) := C_1.out.cell 0
          go_enter Tryd.func15, Tryd.ntmps15
          go_wp2_with fail
          refine (N.out _).mono ?_
          rintro e w2 ⟨rfl, hb⟩
          clear c0_1
          have B_2 := Lib.hid (B_1.out.trans (hb.mono B_1.out.size))
          have C_2 := Lib.hid (C_1.out.below hb C_1.out.lt)
          clear B_1 C_1
          clear hb 
          have c0_2 : w2.cell? ⟨w.heap.size, 0, none⟩ = some (.int .i64 ka) := C_2.out.cell 0
          have c6_2 : w2.cell? ⟨w.heap.size, 6, none⟩ = some (.slice kp kn kq) := C_2.out.cell 6
          have H0 : Hid (∀ j : Nat, j < nk.toNat → nk ≤ (j : Int) → nth ⟨ka, kb, kc, kd, ke, kf, kl⟩ j = 0) := Lib.hid (fun j hj hj2 => by omega)
          obtain ⟨m, hm⟩ : ∃ m : Nat, nk = (m : Int) := ⟨nk.toNat, by omega⟩
          subst hm
          have hm5 : m ≤ 5 := by omega
          have hm6 : (m : Int) ≤ 5 := by omega
          clear c0_2
          clear c6_2
          have SZ := Lib.hid (Below.refl w2.heap.size w2)
          have c0_2 : w2.cell? ⟨w.heap.size, 0, none⟩ = some (.int .i64 ka) := C_2.out.cell 0
          have c6_2 : w2.cell? ⟨w.heap.size, 6, none⟩ = some (.slice kp kn kq) := C_2.out.cell 6
          go_wp2_with fail
          clear c0_2 c6_2
          go_loopw [4] (fun i wr => ∃ k : Nat, m ≤ k ∧ k ≤ 5 ∧ i = .int .i64 k ∧ Hid (∀ j : Nat, j < k → (m : Int) ≤ (j : Int) → nth ⟨ka, kb, kc, kd, ke, kf, kl⟩ j = 0) ∧ Hid (Below w2.heap.size w2 wr)) (fun i _ => 5 - (RowKit.intOf i).toNat)
          case atStart => exact ⟨m, Nat.le_refl _, hm5, rfl, Lib.hid (fun j hj hj2 => by omega), SZ⟩
          case round =>
            clear SZ H0
            obtain ⟨k, hmk, hk5, rfl, HZ, BX⟩ := hrel
            by_cases hlt : k < 5
            · have hk6 : (k : Int) < 5 := by omega
              have CR := Lib.hid (C_2.out.below BX.out C_2.out.lt)
              have c0 : wr.cell? ⟨w.heap.size, 0, none⟩ = some (.int .i64 ka) := CR.out.cell 0
              have c1 : wr.cell? ⟨w.heap.size, 1, none⟩ = some (.int .i64 kb) := CR.out.cell 1
              have c2 : wr.cell? ⟨w.heap.size, 2, none⟩ = some (.int .i64 kc) := CR.out.cell 2
              have c3 : wr.cell? ⟨w.heap.size, 3, none⟩ = some (.int .i64 kd) := CR.out.cell 3
              have c4 : wr.cell? ⟨w.heap.size, 4, none⟩ = some (.int .i64 ke) := CR.out.cell 4
              have c5 : wr.cell? ⟨w.heap.size, 5, none⟩ = some (.int .i64 kf) := CR.out.cell 5
              have c6 : wr.cell? ⟨w.heap.size, 6, none⟩ = some (.slice kp kn kq) := CR.out.cell 6
              go_wp2_with fail
              refine (T.out k hlt _).mono ?_
              rintro e w2 ⟨rfl, hb⟩
              have B2 := Lib.hid (BX.out.trans (hb.mono BX.out.size))
              clear hb c0 c1 c2 c3 c4 c5 c6 CR
              by_cases hz : nth ⟨ka, kb, kc, kd, ke, kf, kl⟩ k = 0
              · have t9 : (nth ⟨ka, kb, kc, kd, ke, kf, kl⟩ k != 0) = false := by simp [hz]
                have HZ2 : Hid (∀ j : Nat, j < k + 1 → (m : Int) ≤ (j : Int) → nth ⟨ka, kb, kc, kd, ke, kf, kl⟩ j = 0) := Lib.hid (fun j hj hj2 => by
                  by_cases e : j = k
                  · rw [e]
                    exact hz
                  · exact HZ.out j (by omega) hj2)
                clear hz HZ
                generalize nth ⟨ka, kb, kc, kd, ke, kf, kl⟩ k = z at t9 ⊢
                go_wp2
                go_roundw
                case rel => exact ⟨k + 1, by omega, by omega, by go_num, HZ2, B2⟩
                case measure => simp [RowKit.intOf]; omega
              · have t9 : (nth ⟨ka, kb, kc, kd, ke, kf, kl⟩ k != 0) = true := by simp [hz]
                have E := Lib.hid (show rightB (⟨ka, kb, kc, kd, ke, kf, kl⟩ : Cm) = false from by
                  rw [← Bool.not_eq_true, RI.out]
                  exact fun h => hz (h.2.2.2 k hlt (by omega)))
                clear hz HZ
                generalize nth ⟨ka, kb, kc, kd, ke, kf, kl⟩ k = z at t9 ⊢
                go_wp2
                go_ret
                exact ⟨by rw [E.out]; rfl, B_2.out.trans (B2.out.mono B_2.out.size)⟩
            · obtain rfl : k = 5 := by omega
              have E := Lib.hid (show rightB (⟨ka, kb, kc, kd, ke, kf, kl⟩ : Cm) = true from by
                rw [RI.out]
                refine ⟨by omega, by rw [HL.out]; omega, ?_, fun i hi hi2 => HZ.out i hi hi2⟩
                exact .inr (List.eq_nil_of_length_eq_zero (by rw [HL.out]; exact h4'.out)))
              go_wp2
              go_ret
              exact ⟨by rw [E.out]; rfl, B_2.out.trans (BX.out.mono B_2.out.size)⟩
end Cm
end Go.Proofs.YtbahilakfgbgpaaDoor
