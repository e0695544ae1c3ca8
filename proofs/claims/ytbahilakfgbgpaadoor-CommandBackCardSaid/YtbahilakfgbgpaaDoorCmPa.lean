/- Walks over package command: how many numbers a kind has, a command's numbers, the first ones, what may be. Condition: the table is as the program lays it. -/
import Derived.Test.YtbahilakfgbgpaaDoorCmFace
import Derived.Test.YtbahilakfgbgpaaDoorRng
import Derived.Test.YtbahilakfgbgpaaDoorTk
import Derived.ChangeKeysEq
namespace Go.Proofs.YtbahilakfgbgpaaDoor
open Go.RowKit

namespace Cm
/-- The table is there, and stays so whatever is made new. -/
structure Tabl (w : World) : Prop where
  tab : ∀ w', Below w.heap.size w w' → ∀ i : Nat, i < 16 → w'.cell? ⟨0, i, none⟩ = some (.int .i64 (cnt i))
theorem Tabl.on {w w1 : World} (h : Tabl w) (hb : Below w.heap.size w w1) : Tabl w1 := ⟨fun w' k => h.tab w' (hb.trans (k.mono hb.size))⟩
theorem pnum_eq (k : Int) (w : World) (hr : Tabl w) : Calls Tryd.prog 12 #[.int .i64 k] w fun e w' => e = .returned (.int .i64 (cnt k)) ∧ w = w' := by
  by_cases h : 0 ≤ k ∧ k ≤ 15
  · obtain ⟨i, rfl⟩ : ∃ i : Nat, k = (i : Int) := ⟨k.toNat, by omega⟩
    have c0 := hr.tab w (Below.refl _ _) i (by omega)
    have hi : ((i : Nat) : Int) < 16 := by omega
    have hi2 : i < 16 := by omega
    have t1 : decide (((i : Nat) : Int) ≥ 16) = false := by simp; omega
    clear h hr
    go_enter Tryd.func12, Tryd.ntmps12
    go_wp2
    go_ret
    exact ⟨rfl, rfl⟩
  · have E := Lib.hid (show cnt k = -1 from by
      have h1 := cnt_bd k
      by_cases h2 : 0 ≤ cnt k
      · exact absurd (cnt_yes h2) h
      · omega)
    rw [E.out]
    by_cases h0 : k < 0
    · have t0 : decide (k < 0) = true := by simpa using h0
      clear h hr E
      go_enter Tryd.func12, Tryd.ntmps12
      go_wp2
      go_ret
      exact ⟨rfl, rfl⟩
    · have t0 : decide (k < 0) = false := by simpa using h0
      have h16 : 16 ≤ k := by omega
      have t1 : decide (k ≥ 16) = true := by simpa using h16
      clear h hr E h0
      go_enter Tryd.func12, Tryd.ntmps12
      go_wp2
      go_ret
      exact ⟨rfl, rfl⟩
theorem pnum_any (k : Int) (w : World) (hr : Tabl w) : Calls Tryd.prog 12 #[.int .i64 k] w fun e w' => e = .returned (.int .i64 (cnt k)) ∧ Below w.heap.size w w' :=
  (pnum_eq k w hr).mono fun _ _ h => ⟨h.1, h.2 ▸ Below.refl _ _⟩
/-- How many Bytes a command of a kind may have. -/
def roomF (k : Int) : Int := if k = 0 then 64 else 0
theorem proom_any (k : Int) (w : World) : Calls Tryd.prog 33 #[.int .i64 k] w fun e w' => e = .returned (.int .i64 (roomF k)) ∧ Below w.heap.size w w' := by
  by_cases h : k = 0
  · subst h
    have E := Lib.hid (show roomF 0 = 64 from rfl)
    rw [E.out]
    clear E
    go_enter Tryd.func33, Tryd.ntmps33
    go_wp2
    go_ret
    exact ⟨rfl, Below.refl _ _⟩
  · have E := Lib.hid (show roomF k = 0 from if_neg h)
    rw [E.out]
    have t0 : (k == 0) = false := by rw [beq_eq_false_iff_ne]; exact h
    clear h E
    go_enter Tryd.func33, Tryd.ntmps33
    go_wp2
    go_ret
    exact ⟨rfl, Below.refl _ _⟩
/-- Five numbers, as an array holds them. -/
def five (a b c d e : Int) : Value := .agg #[.int .i64 a, .int .i64 b, .int .i64 c, .int .i64 d, .int .i64 e]
set_option maxRecDepth 100000 in
set_option maxHeartbeats 16000000 in
theorem pnumbers_any (y : Cv) (w : World) : Calls Tryd.prog 19 #[cval y] w fun e w' => e = .returned (five y.x.a y.x.b y.x.c y.x.d y.x.e) ∧ Below w.heap.size w w' := by
  obtain ⟨⟨ka, kb, kc, kd, ke, kf, kl⟩, kp, kn, kq⟩ := y
  simp only [cval, five]
  have B1 := Lib.hid (alloc_below w (.cells #[.int .i64 ka, .int .i64 kb, .int .i64 kc, .int .i64 kd, .int .i64 ke, .int .i64 kf, .slice kp kn kq] 25))
  have C1 := Lib.hid (Lies.new w 25 #[.int .i64 ka, .int .i64 kb, .int .i64 kc, .int .i64 kd, .int .i64 ke, .int .i64 kf, .slice kp kn kq])
  obtain ⟨w1, hw1⟩ : ∃ w1, w.alloc (.cells #[.int .i64 ka, .int .i64 kb, .int .i64 kc, .int .i64 kd, .int .i64 ke, .int .i64 kf, .slice kp kn kq] 25) = w1 := ⟨_, rfl⟩
  rw [hw1] at B1 C1
  have hs1 : w1.heap.size = w.heap.size + 1 := by rw [← hw1]; simp
  have B2 := Lib.hid (B1.out.alloc B1.out.size (.cells #[.int .i64 0, .int .i64 0, .int .i64 0, .int .i64 0, .int .i64 0] 42))
  have C2 := Lib.hid (C1.out.alloc (.cells #[.int .i64 0, .int .i64 0, .int .i64 0, .int .i64 0, .int .i64 0] 42))
  have D2 := Lib.hid (Lies.new w1 42 #[.int .i64 0, .int .i64 0, .int .i64 0, .int .i64 0, .int .i64 0])
  obtain ⟨w2, hw2⟩ : ∃ w2, w1.alloc (.cells #[.int .i64 0, .int .i64 0, .int .i64 0, .int .i64 0, .int .i64 0] 42) = w2 := ⟨_, rfl⟩
  rw [hw2] at B2 C2 D2
  have HS := Lib.hid (show w.heap.size ≤ w1.heap.size by omega)
  have c1 : w2.cell? ⟨w.heap.size, 1, none⟩ = some (.int .i64 kb) := C2.out.cell 1
  have c2 : w2.cell? ⟨w.heap.size, 2, none⟩ = some (.int .i64 kc) := C2.out.cell 2
  have c3 : w2.cell? ⟨w.heap.size, 3, none⟩ = some (.int .i64 kd) := C2.out.cell 3
  have c4 : w2.cell? ⟨w.heap.size, 4, none⟩ = some (.int .i64 ke) := C2.out.cell 4
  have c5 : w2.cell? ⟨w.heap.size, 5, none⟩ = some (.int .i64 kf) := C2.out.cell 5
  have d0 : w2.cell? ⟨w1.heap.size, 0, none⟩ = some (.int .i64 0) := D2.out.cell 0
  have f0 := D2.out.frozen 0
  have d1 : w2.cell? ⟨w1.heap.size, 1, none⟩ = some (.int .i64 0) := D2.out.cell 1
  have f1 := D2.out.frozen 1
  have d2 : w2.cell? ⟨w1.heap.size, 2, none⟩ = some (.int .i64 0) := D2.out.cell 2
  have f2 := D2.out.frozen 2
  have d3 : w2.cell? ⟨w1.heap.size, 3, none⟩ = some (.int .i64 0) := D2.out.cell 3
  have f3 := D2.out.frozen 3
  have d4 : w2.cell? ⟨w1.heap.size, 4, none⟩ = some (.int .i64 0) := D2.out.cell 4
  have f4 := D2.out.frozen 4
  clear hs1 C1 C2 D2
  have B := Lib.hid (B2.out)
  clear B1 B2
  go_enter Tryd.func19, Tryd.ntmps19
  go_wp2
  refine bodyPost_ret (v := .agg #[.int .i64 kb, .int .i64 kc, .int .i64 kd, .int .i64 ke, .int .i64 kf]) (by simp [results, Tryd.results19, go_sem, d0, d1, d2, d3, d4]) rfl ⟨rfl, ?_⟩
  iterate 5 refine Below.setCell ?_ HS.out _
  exact B.out
/-- The first ones of five numbers, and 0 in the places behind them. -/
def cutI (k : Nat) (i : Nat) (x : Int) : Int := if i < k then x else 0
theorem noU8_5 (a b c d e : Int) : NoU8 #[.int .i64 a, .int .i64 b, .int .i64 c, .int .i64 d, .int .i64 e] := by
  intro i x h
  match i with
  | 0 => simp at h
  | 1 => simp at h
  | 2 => simp at h
  | 3 => simp at h
  | 4 => simp at h
  | i + 5 => simp at h
set_option maxRecDepth 100000 in
set_option maxHeartbeats 16000000 in
theorem pfirst_any (fa fb fc fd fe : Int) (m : Nat) (w : World) (hm : m ≤ 5) :
    Calls Tryd.prog 34 #[five fa fb fc fd fe, .int .i64 ((m : Nat) : Int)] w fun e w' => e = .returned (five (cutI m 0 fa) (cutI m 1 fb) (cutI m 2 fc) (cutI m 3 fd) (cutI m 4 fe)) ∧ Below w.heap.size w w' := by
  simp only [five]
  have hm3 : ((m : Nat) : Int) ≤ 5 := by omega
  have B1 := Lib.hid (alloc_below w (.cells #[.int .i64 fa, .int .i64 fb, .int .i64 fc, .int .i64 fd, .int .i64 fe] 42))
  have C1 := Lib.hid (Lies.new w 42 #[.int .i64 fa, .int .i64 fb, .int .i64 fc, .int .i64 fd, .int .i64 fe])
  obtain ⟨w1, hw1⟩ : ∃ w1, w.alloc (.cells #[.int .i64 fa, .int .i64 fb, .int .i64 fc, .int .i64 fd, .int .i64 fe] 42) = w1 := ⟨_, rfl⟩
  rw [hw1] at B1 C1
  have hs1 : w1.heap.size = w.heap.size + 1 := by rw [← hw1]; simp
  have B2 := Lib.hid (B1.out.alloc B1.out.size (.cells #[.int .i64 0, .int .i64 0, .int .i64 0, .int .i64 0, .int .i64 0] 42))
  have C2 := Lib.hid (C1.out.alloc (.cells #[.int .i64 0, .int .i64 0, .int .i64 0, .int .i64 0, .int .i64 0] 42))
  have D2 := Lib.hid (Lies.new w1 42 #[.int .i64 0, .int .i64 0, .int .i64 0, .int .i64 0, .int .i64 0])
  obtain ⟨w2, hw2⟩ : ∃ w2, w1.alloc (.cells #[.int .i64 0, .int .i64 0, .int .i64 0, .int .i64 0, .int .i64 0] 42) = w2 := ⟨_, rfl⟩
  rw [hw2] at B2 C2 D2
  have hs2 : w2.heap.size = w.heap.size + 2 := by rw [← hw2]; simp [hs1]
  have B3 := Lib.hid (B2.out.alloc B2.out.size (.cells #[.int .i64 0, .int .i64 0, .int .i64 0, .int .i64 0, .int .i64 0] 42))
  have C3 := Lib.hid (C2.out.alloc (.cells #[.int .i64 0, .int .i64 0, .int .i64 0, .int .i64 0, .int .i64 0] 42))
  have D3 := Lib.hid (D2.out.alloc (.cells #[.int .i64 0, .int .i64 0, .int .i64 0, .int .i64 0, .int .i64 0] 42))
  have E3 := Lib.hid (Lies.new w2 42 #[.int .i64 0, .int .i64 0, .int .i64 0, .int .i64 0, .int .i64 0])
  obtain ⟨w3, hw3⟩ : ∃ w3, w2.alloc (.cells #[.int .i64 0, .int .i64 0, .int .i64 0, .int .i64 0, .int .i64 0] 42) = w3 := ⟨_, rfl⟩
  rw [hw3] at B3 C3 D3 E3
  have Z0 := Lib.hid (show (#[.int .i64 0, .int .i64 0, .int .i64 0, .int .i64 0, .int .i64 0] : Array Value) = #[(.int .i64 (cutI 0 0 fa)), (.int .i64 (cutI 0 1 fb)), (.int .i64 (cutI 0 2 fc)), (.int .i64 (cutI 0 3 fd)), (.int .i64 (cutI 0 4 fe))] from rfl)
  rw [Z0.out] at E3
  have HS1 := Lib.hid (show w.heap.size ≤ w1.heap.size ∧ w.heap.size ≤ w2.heap.size by omega)
  have HN := Lib.hid (show w.heap.size ≠ w2.heap.size ∧ w1.heap.size ≠ w2.heap.size by omega)
  clear B1 B2 C1 C2 D2 hs1 hs2 Z0
  go_enter Tryd.func34, Tryd.ntmps34
  go_wp2
  go_loopw [8] (fun i wr => ∃ k : Nat, k ≤ m ∧ i = .int .i64 ((k : Nat) : Int) ∧ Hid (Lies wr w.heap.size 42 #[.int .i64 fa, .int .i64 fb, .int .i64 fc, .int .i64 fd, .int .i64 fe]) ∧ Hid (Lies wr (w1.heap.size) 42 #[.int .i64 0, .int .i64 0, .int .i64 0, .int .i64 0, .int .i64 0]) ∧ Hid (Lies wr (w2.heap.size) 42 #[(.int .i64 (cutI k 0 fa)), (.int .i64 (cutI k 1 fb)), (.int .i64 (cutI k 2 fc)), (.int .i64 (cutI k 3 fd)), (.int .i64 (cutI k 4 fe))]) ∧ Hid (Below w.heap.size w wr)) (fun i _ => m - (RowKit.intOf i).toNat)
  case atStart => exact ⟨0, Nat.zero_le _, rfl, C3, D3, E3, B3⟩
  case round =>
    clear C3 D3 E3 B3
    obtain ⟨k, hkm, rfl, CR, DR, ER, BR⟩ := hrel
    by_cases hlt : k < m
    · have hk5 : k = 0 ∨ k = 1 ∨ k = 2 ∨ k = 3 ∨ k = 4 := by omega
      have hk3 : ((k : Nat) : Int) < ((m : Nat) : Int) := by omega
      rcases hk5 with rfl | rfl | rfl | rfl | rfl
      · have c0 : wr.cell? ⟨w.heap.size, 0, none⟩ = some (.int .i64 fa) := CR.out.cell 0
        have e0 : wr.cell? ⟨w2.heap.size, 0, none⟩ = some (.int .i64 (cutI 0 0 fa)) := ER.out.cell 0
        have f0 := ER.out.frozen 0
        have t0 : decide (0 < m) = true := by simpa using hlt
        have TN := (Turn.refl (fun i => i = w2.heap.size) wr).setCell (p := ⟨w2.heap.size, 0, none⟩) (.inl rfl) (.int .i64 fa)
        have CN := Lib.hid (CR.out.turn TN HN.out.1)
        have DN := Lib.hid (DR.out.turn TN HN.out.2)
        have EN : Hid (Lies (wr.setCell ⟨w2.heap.size, 0, none⟩ (.int .i64 fa)) (w2.heap.size) 42 #[(.int .i64 (cutI 1 0 fa)), (.int .i64 (cutI 1 1 fb)), (.int .i64 (cutI 1 2 fc)), (.int .i64 (cutI 1 3 fd)), (.int .i64 (cutI 1 4 fe))]) := Lib.hid (by simpa [cutI] using ER.out.set_ 0 (.int .i64 fa))
        have BN := Lib.hid (BR.out.setCell (p := ⟨w2.heap.size, 0, none⟩) HS1.out.2 (.int .i64 fa))
        clear TN CR DR ER BR
        go_wp2
        go_roundw
        case rel => exact ⟨0 + 1, by omega, by go_num, CN, DN, EN, BN⟩
        case measure => simp [RowKit.intOf]; omega
      · have c0 : wr.cell? ⟨w.heap.size, 1, none⟩ = some (.int .i64 fb) := CR.out.cell 1
        have e0 : wr.cell? ⟨w2.heap.size, 1, none⟩ = some (.int .i64 (cutI 1 1 fb)) := ER.out.cell 1
        have f0 := ER.out.frozen 1
        have t0 : decide (1 < m) = true := by simpa using hlt
        have TN := (Turn.refl (fun i => i = w2.heap.size) wr).setCell (p := ⟨w2.heap.size, 1, none⟩) (.inl rfl) (.int .i64 fb)
        have CN := Lib.hid (CR.out.turn TN HN.out.1)
        have DN := Lib.hid (DR.out.turn TN HN.out.2)
        have EN : Hid (Lies (wr.setCell ⟨w2.heap.size, 1, none⟩ (.int .i64 fb)) (w2.heap.size) 42 #[(.int .i64 (cutI 2 0 fa)), (.int .i64 (cutI 2 1 fb)), (.int .i64 (cutI 2 2 fc)), (.int .i64 (cutI 2 3 fd)), (.int .i64 (cutI 2 4 fe))]) := Lib.hid (by simpa [cutI] using ER.out.set_ 1 (.int .i64 fb))
        have BN := Lib.hid (BR.out.setCell (p := ⟨w2.heap.size, 1, none⟩) HS1.out.2 (.int .i64 fb))
        clear TN CR DR ER BR
        go_wp2
        go_roundw
        case rel => exact ⟨1 + 1, by omega, by go_num, CN, DN, EN, BN⟩
        case measure => simp [RowKit.intOf]; omega
      · have c0 : wr.cell? ⟨w.heap.size, 2, none⟩ = some (.int .i64 fc) := CR.out.cell 2
        have e0 : wr.cell? ⟨w2.heap.size, 2, none⟩ = some (.int .i64 (cutI 2 2 fc)) := ER.out.cell 2
        have f0 := ER.out.frozen 2
        have t0 : decide (2 < m) = true := by simpa using hlt
        have TN := (Turn.refl (fun i => i = w2.heap.size) wr).setCell (p := ⟨w2.heap.size, 2, none⟩) (.inl rfl) (.int .i64 fc)
        have CN := Lib.hid (CR.out.turn TN HN.out.1)
        have DN := Lib.hid (DR.out.turn TN HN.out.2)
        have EN : Hid (Lies (wr.setCell ⟨w2.heap.size, 2, none⟩ (.int .i64 fc)) (w2.heap.size) 42 #[(.int .i64 (cutI 3 0 fa)), (.int .i64 (cutI 3 1 fb)), (.int .i64 (cutI 3 2 fc)), (.int .i64 (cutI 3 3 fd)), (.int .i64 (cutI 3 4 fe))]) := Lib.hid (by simpa [cutI] using ER.out.set_ 2 (.int .i64 fc))
        have BN := Lib.hid (BR.out.setCell (p := ⟨w2.heap.size, 2, none⟩) HS1.out.2 (.int .i64 fc))
        clear TN CR DR ER BR
        go_wp2
        go_roundw
        case rel => exact ⟨2 + 1, by omega, by go_num, CN, DN, EN, BN⟩
        case measure => simp [RowKit.intOf]; omega
      · have c0 : wr.cell? ⟨w.heap.size, 3, none⟩ = some (.int .i64 fd) := CR.out.cell 3
        have e0 : wr.cell? ⟨w2.heap.size, 3, none⟩ = some (.int .i64 (cutI 3 3 fd)) := ER.out.cell 3
        have f0 := ER.out.frozen 3
        have t0 : decide (3 < m) = true := by simpa using hlt
        have TN := (Turn.refl (fun i => i = w2.heap.size) wr).setCell (p := ⟨w2.heap.size, 3, none⟩) (.inl rfl) (.int .i64 fd)
        have CN := Lib.hid (CR.out.turn TN HN.out.1)
        have DN := Lib.hid (DR.out.turn TN HN.out.2)
        have EN : Hid (Lies (wr.setCell ⟨w2.heap.size, 3, none⟩ (.int .i64 fd)) (w2.heap.size) 42 #[(.int .i64 (cutI 4 0 fa)), (.int .i64 (cutI 4 1 fb)), (.int .i64 (cutI 4 2 fc)), (.int .i64 (cutI 4 3 fd)), (.int .i64 (cutI 4 4 fe))]) := Lib.hid (by simpa [cutI] using ER.out.set_ 3 (.int .i64 fd))
        have BN := Lib.hid (BR.out.setCell (p := ⟨w2.heap.size, 3, none⟩) HS1.out.2 (.int .i64 fd))
        clear TN CR DR ER BR
        go_wp2
        go_roundw
        case rel => exact ⟨3 + 1, by omega, by go_num, CN, DN, EN, BN⟩
        case measure => simp [RowKit.intOf]; omega
      · have c0 : wr.cell? ⟨w.heap.size, 4, none⟩ = some (.int .i64 fe) := CR.out.cell 4
        have e0 : wr.cell? ⟨w2.heap.size, 4, none⟩ = some (.int .i64 (cutI 4 4 fe)) := ER.out.cell 4
        have f0 := ER.out.frozen 4
        have t0 : decide (4 < m) = true := by simpa using hlt
        have TN := (Turn.refl (fun i => i = w2.heap.size) wr).setCell (p := ⟨w2.heap.size, 4, none⟩) (.inl rfl) (.int .i64 fe)
        have CN := Lib.hid (CR.out.turn TN HN.out.1)
        have DN := Lib.hid (DR.out.turn TN HN.out.2)
        have EN : Hid (Lies (wr.setCell ⟨w2.heap.size, 4, none⟩ (.int .i64 fe)) (w2.heap.size) 42 #[(.int .i64 (cutI 5 0 fa)), (.int .i64 (cutI 5 1 fb)), (.int .i64 (cutI 5 2 fc)), (.int .i64 (cutI 5 3 fd)), (.int .i64 (cutI 5 4 fe))]) := Lib.hid (by simpa [cutI] using ER.out.set_ 4 (.int .i64 fe))
        have BN := Lib.hid (BR.out.setCell (p := ⟨w2.heap.size, 4, none⟩) HS1.out.2 (.int .i64 fe))
        clear TN CR DR ER BR
        go_wp2
        go_roundw
        case rel => exact ⟨4 + 1, by omega, by go_num, CN, DN, EN, BN⟩
        case measure => simp [RowKit.intOf]; omega
    · obtain rfl : k = m := by omega
      have e0 : wr.cell? ⟨w2.heap.size, 0, none⟩ = some (.int .i64 (cutI k 0 fa)) := ER.out.cell 0
      have r0 : wr.cell? ⟨w1.heap.size, 0, none⟩ = some (.int .i64 0) := DR.out.cell 0
      have f0 := DR.out.frozen 0
      have e1 : wr.cell? ⟨w2.heap.size, 1, none⟩ = some (.int .i64 (cutI k 1 fb)) := ER.out.cell 1
      have r1 : wr.cell? ⟨w1.heap.size, 1, none⟩ = some (.int .i64 0) := DR.out.cell 1
      have f1 := DR.out.frozen 1
      have e2 : wr.cell? ⟨w2.heap.size, 2, none⟩ = some (.int .i64 (cutI k 2 fc)) := ER.out.cell 2
      have r2 : wr.cell? ⟨w1.heap.size, 2, none⟩ = some (.int .i64 0) := DR.out.cell 2
      have f2 := DR.out.frozen 2
      have e3 : wr.cell? ⟨w2.heap.size, 3, none⟩ = some (.int .i64 (cutI k 3 fd)) := ER.out.cell 3
      have r3 : wr.cell? ⟨w1.heap.size, 3, none⟩ = some (.int .i64 0) := DR.out.cell 3
      have f3 := DR.out.frozen 3
      have e4 : wr.cell? ⟨w2.heap.size, 4, none⟩ = some (.int .i64 (cutI k 4 fe)) := ER.out.cell 4
      have r4 : wr.cell? ⟨w1.heap.size, 4, none⟩ = some (.int .i64 0) := DR.out.cell 4
      have f4 := DR.out.frozen 4
      clear CR DR ER
      go_wp2
      refine bodyPost_ret (v := .agg #[(.int .i64 (cutI k 0 fa)), (.int .i64 (cutI k 1 fb)), (.int .i64 (cutI k 2 fc)), (.int .i64 (cutI k 3 fd)), (.int .i64 (cutI k 4 fe))]) (by simp [results, Tryd.results34, go_sem, r0, r1, r2, r3, r4]) rfl ⟨rfl, ?_⟩
      iterate 5 refine Below.setCell ?_ HS1.out.1 _
      exact BR.out
/-- Two arrays of five numbers are one if their numbers are. -/
theorem eq5 (w : World) (a b c d e a2 b2 c2 d2 e2 : Int) : (Op.equalIn 10000 42 (.agg #[.int .i64 a, .int .i64 b, .int .i64 c, .int .i64 d, .int .i64 e]) (.agg #[.int .i64 a2, .int .i64 b2, .int .i64 c2, .int .i64 d2, .int .i64 e2])).run Tryd.prog w =
    .ok (decide (a = a2 ∧ b = b2 ∧ c = c2 ∧ d = d2 ∧ e = e2)) w := by
  have hu : Tryd.prog.underlying 42 = some (.array 5 3) := by kernel_rfl
  obtain ⟨i, hi⟩ : ∃ i, Tryd.prog.info? 3 = some i := Option.isSome_iff_exists.1 (by kernel_rfl)
  have hc : Tryd.prog.cellsOf 3 = 1 := by kernel_rfl
  have hp : Tryd.prog.plainKey 3 = true := by kernel_rfl
  have hz : Tryd.prog.underlying 3 = some (.int .i64) := by kernel_rfl
  rw [run_equalIn_array w 9999 _ _ hu hi, hc]
  have H : ∀ x y : Int, (Op.equalIn 9999 3 (.int .i64 x) (.int .i64 y)).run Tryd.prog w = .ok (x == y) w := fun x y => run_equalIn_int w 9998 _ _ _ x y hz
  have p : ∀ (xs : Array Value) (i : Nat) (v : Value), xs[i]? = some v → (part 3 xs (i * 1)).run Tryd.prog w = .ok v w := fun xs i v h => run_part_plain w hp (by simpa using h)
  show (Op.eqItems 9999 3 1 _ _ [0, 1, 2, 3, 4]).run _ _ = _
  have p0 : ∀ a b c d e : Value, (part 3 #[a, b, c, d, e] 0).run Tryd.prog w = .ok a w := fun a b c d e => p _ 0 _ rfl
  have p1 : ∀ a b c d e : Value, (part 3 #[a, b, c, d, e] 1).run Tryd.prog w = .ok b w := fun a b c d e => p _ 1 _ rfl
  have p2 : ∀ a b c d e : Value, (part 3 #[a, b, c, d, e] 2).run Tryd.prog w = .ok c w := fun a b c d e => p _ 2 _ rfl
  have p3 : ∀ a b c d e : Value, (part 3 #[a, b, c, d, e] 3).run Tryd.prog w = .ok d w := fun a b c d e => p _ 3 _ rfl
  have p4 : ∀ a b c d e : Value, (part 3 #[a, b, c, d, e] 4).run Tryd.prog w = .ok e w := fun a b c d e => p _ 4 _ rfl
  simp only [Op.eqItems, Nat.mul_one, Sem.run_bind, p0, Result.andThen_ok, H]
  by_cases h0 : a = a2
  · by_cases h1 : b = b2
    · by_cases h2 : c = c2
      · by_cases h3 : d = d2
        · by_cases h4 : e = e2
          · simp [h0, h1, h2, h3, h4, p1, p2, p3, p4, H]
          · simp [h0, h1, h2, h3, h4, p1, p2, p3, p4, H]
        · simp [h0, h1, h2, h3, p1, p2, p3, H]
      · simp [h0, h1, h2, p1, p2, H]
    · simp [h0, h1, p1, H]
  · simp [h0]
theorem right_five {c : Cm} {m : Nat} (hm : cnt c.kind = (m : Int)) : rightB c = (decide ((c.bytes.length : Int) ≤ roomF c.kind) && decide (c.a = cutI m 0 c.a ∧ c.b = cutI m 1 c.b ∧ c.c = cutI m 2 c.c ∧ c.d = cutI m 3 c.d ∧ c.e = cutI m 4 c.e)) := by
  have hm5 := (cnt_bd c.kind).2
  rw [Bool.eq_iff_iff, right_iff, Bool.and_eq_true, decide_eq_true_iff, decide_eq_true_iff]
  have hc : ∀ (i : Nat) (x : Int), x = cutI m i x ↔ (m ≤ i → x = 0) := fun i x => by
    unfold cutI
    split <;> constructor
    · intro _ h; omega
    · intro _; rfl
    · intro h _; exact h
    · intro h; exact h (by omega)
  simp only [hc]
  constructor
  · rintro ⟨_, h2, h3, h4⟩
    refine ⟨?_, fun h => h4 0 (by decide) (by omega), fun h => h4 1 (by decide) (by omega), fun h => h4 2 (by decide) (by omega), fun h => h4 3 (by decide) (by omega), fun h => h4 4 (by decide) (by omega)⟩
    unfold roomF
    rcases h3 with h3 | h3
    · rw [if_pos h3]; omega
    · rw [h3]; split <;> decide
  · rintro ⟨h1, h2, h3, h4, h5, h6⟩
    refine ⟨by omega, ?_, ?_, fun i hi hj => ?_⟩
    · unfold roomF at h1
      split at h1 <;> omega
    · by_cases h0 : c.kind = 0
      · exact .inl h0
      · unfold roomF at h1
        rw [if_neg h0] at h1
        exact .inr (List.eq_nil_of_length_eq_zero (by omega))
    · match i, hi with
      | 0, _ => exact h2 (by omega)
      | 1, _ => exact h3 (by omega)
      | 2, _ => exact h4 (by omega)
      | 3, _ => exact h5 (by omega)
      | 4, _ => exact h6 (by omega)
set_option maxRecDepth 100000 in
set_option maxHeartbeats 16000000 in
theorem pright_any (y : Cv) (w : World) (hr : Tabl w) (hl : y.x.bytes.length = y.n) (hn : y.n ≤ 1000000) : Calls Tryd.prog 14 #[cval y] w fun e w' => e = .returned (.bool (rightB y.x)) ∧ Below w.heap.size w w' := by
  have N := Lib.hid (fun W h => pnum_any y.x.kind W h)
  have M := Lib.hid (fun W => pnumbers_any y W)
  have RM := Lib.hid (fun W => proom_any y.x.kind W)
  have CB := cnt_bd y.x.kind
  by_cases h0 : cnt y.x.kind = -1
  · have E := Lib.hid (show rightB y.x = false from by
      rw [← Bool.not_eq_true, right_iff]
      exact fun h => by omega)
    rw [E.out]
    rw [h0] at N
    obtain ⟨⟨ka, kb, kc, kd, ke, kf, kl⟩, kp, kn, kq⟩ := y
    simp only [cval] at N ⊢
    clear hl hn CB h0 E M RM
    have B_0 := Lib.hid (Below.refl w.heap.size w)
    have R_0 := Lib.hid (hr)
    clear hr
    have B_1 := Lib.hid (B_0.out.alloc B_0.out.size (.cells #[.int .i64 ka, .int .i64 kb, .int .i64 kc, .int .i64 kd, .int .i64 ke, .int .i64 kf, .slice kp kn kq] 25))
    have R_1 := Lib.hid (Tabl.on R_0.out (alloc_below w (.cells #[.int .i64 ka, .int .i64 kb, .int .i64 kc, .int .i64 kd, .int .i64 ke, .int .i64 kf, .slice kp kn kq] 25)))
    clear B_0 R_0
    have C_1 := Lib.hid (Lies.new w 25 #[.int .i64 ka, .int .i64 kb, .int .i64 kc, .int .i64 kd, .int .i64 ke, .int .i64 kf, .slice kp kn kq])
    have c0_1 : (w.alloc (.cells #[.int .i64 ka, .int .i64 kb, .int .i64 kc, .int .i64 kd, .int .i64 ke, .int .i64 kf, .slice kp kn kq] 25)).cell? ⟨w.heap.size, 0, none⟩ = some (.int .i64 ka) := C_1.out.cell 0
    have c1_1 : (w.alloc (.cells #[.int .i64 ka, .int .i64 kb, .int .i64 kc, .int .i64 kd, .int .i64 ke, .int .i64 kf, .slice kp kn kq] 25)).cell? ⟨w.heap.size, 1, none⟩ = some (.int .i64 kb) := C_1.out.cell 1
    have c2_1 : (w.alloc (.cells #[.int .i64 ka, .int .i64 kb, .int .i64 kc, .int .i64 kd, .int .i64 ke, .int .i64 kf, .slice kp kn kq] 25)).cell? ⟨w.heap.size, 2, none⟩ = some (.int .i64 kc) := C_1.out.cell 2
    have c3_1 : (w.alloc (.cells #[.int .i64 ka, .int .i64 kb, .int .i64 kc, .int .i64 kd, .int .i64 ke, .int .i64 kf, .slice kp kn kq] 25)).cell? ⟨w.heap.size, 3, none⟩ = some (.int .i64 kd) := C_1.out.cell 3
    have c4_1 : (w.alloc (.cells #[.int .i64 ka, .int .i64 kb, .int .i64 kc, .int .i64 kd, .int .i64 ke, .int .i64 kf, .slice kp kn kq] 25)).cell? ⟨w.heap.size, 4, none⟩ = some (.int .i64 ke) := C_1.out.cell 4
    have c5_1 : (w.alloc (.cells #[.int .i64 ka, .int .i64 kb, .int .i64 kc, .int .i64 kd, .int .i64 ke, .int .i64 kf, .slice kp kn kq] 25)).cell? ⟨w.heap.size, 5, none⟩ = some (.int .i64 kf) := C_1.out.cell 5
    have c6_1 : (w.alloc (.cells #[.int .i64 ka, .int .i64 kb, .int .i64 kc, .int .i64 kd, .int .i64 ke, .int .i64 kf, .slice kp kn kq] 25)).cell? ⟨w.heap.size, 6, none⟩ = some (.slice kp kn kq) := C_1.out.cell 6
    go_enter Tryd.func14, Tryd.ntmps14
    go_wp2_with fail
    refine (N.out _ R_1.out).mono ?_
    rintro e w2 ⟨rfl, hb⟩
    clear c0_1 c1_1 c2_1 c3_1 c4_1 c5_1 c6_1
    have B_2 := Lib.hid (B_1.out.trans (hb.mono B_1.out.size))
    have R_2 := Lib.hid (Tabl.on R_1.out hb)
    have C_2 := Lib.hid (C_1.out.below hb C_1.out.lt)
    clear B_1 R_1 C_1
    clear hb 
    go_wp2
    go_ret
    exact ⟨rfl, B_2.out⟩
  · obtain ⟨m, hm⟩ : ∃ m : Nat, cnt y.x.kind = (m : Int) := ⟨(cnt y.x.kind).toNat, by omega⟩
    have hm5 : m ≤ 5 := by omega
    have E := Lib.hid (right_five hm)
    have PF := Lib.hid (fun W => pfirst_any y.x.a y.x.b y.x.c y.x.d y.x.e m W hm5)
    rw [E.out]
    rw [hm] at N
    obtain ⟨⟨ka, kb, kc, kd, ke, kf, kl⟩, kp, kn, kq⟩ := y
    simp only [cval, five] at N M RM PF hl hn ⊢
    have tm : (((m : Nat) : Int) == -1) = false := by rw [beq_eq_false_iff_ne]; omega
    have hn3 : ((kn : Nat) : Int) ≤ 1000000 := by omega
    rw [hl]
    generalize roomF ka = rm at *
    generalize cutI m 0 kb = g0 at *
    generalize cutI m 1 kc = g1 at *
    generalize cutI m 2 kd = g2 at *
    generalize cutI m 3 ke = g3 at *
    generalize cutI m 4 kf = g4 at *
    have Q := Lib.hid (fun W => eq5 W kb kc kd ke kf g0 g1 g2 g3 g4)
    generalize decide (kb = g0 ∧ kc = g1 ∧ kd = g2 ∧ ke = g3 ∧ kf = g4) = qb at *
    clear hl hn CB h0 hm E hm5
    have B_0 := Lib.hid (Below.refl w.heap.size w)
    have R_0 := Lib.hid (hr)
    clear hr
    have B_1 := Lib.hid (B_0.out.alloc B_0.out.size (.cells #[.int .i64 ka, .int .i64 kb, .int .i64 kc, .int .i64 kd, .int .i64 ke, .int .i64 kf, .slice kp kn kq] 25))
    have R_1 := Lib.hid (Tabl.on R_0.out (alloc_below w (.cells #[.int .i64 ka, .int .i64 kb, .int .i64 kc, .int .i64 kd, .int .i64 ke, .int .i64 kf, .slice kp kn kq] 25)))
    clear B_0 R_0
    have C_1 := Lib.hid (Lies.new w 25 #[.int .i64 ka, .int .i64 kb, .int .i64 kc, .int .i64 kd, .int .i64 ke, .int .i64 kf, .slice kp kn kq])
    have c0_1 : (w.alloc (.cells #[.int .i64 ka, .int .i64 kb, .int .i64 kc, .int .i64 kd, .int .i64 ke, .int .i64 kf, .slice kp kn kq] 25)).cell? ⟨w.heap.size, 0, none⟩ = some (.int .i64 ka) := C_1.out.cell 0
    have c1_1 : (w.alloc (.cells #[.int .i64 ka, .int .i64 kb, .int .i64 kc, .int .i64 kd, .int .i64 ke, .int .i64 kf, .slice kp kn kq] 25)).cell? ⟨w.heap.size, 1, none⟩ = some (.int .i64 kb) := C_1.out.cell 1
    have c2_1 : (w.alloc (.cells #[.int .i64 ka, .int .i64 kb, .int .i64 kc, .int .i64 kd, .int .i64 ke, .int .i64 kf, .slice kp kn kq] 25)).cell? ⟨w.heap.size, 2, none⟩ = some (.int .i64 kc) := C_1.out.cell 2
    have c3_1 : (w.alloc (.cells #[.int .i64 ka, .int .i64 kb, .int .i64 kc, .int .i64 kd, .int .i64 ke, .int .i64 kf, .slice kp kn kq] 25)).cell? ⟨w.heap.size, 3, none⟩ = some (.int .i64 kd) := C_1.out.cell 3
    have c4_1 : (w.alloc (.cells #[.int .i64 ka, .int .i64 kb, .int .i64 kc, .int .i64 kd, .int .i64 ke, .int .i64 kf, .slice kp kn kq] 25)).cell? ⟨w.heap.size, 4, none⟩ = some (.int .i64 ke) := C_1.out.cell 4
    have c5_1 : (w.alloc (.cells #[.int .i64 ka, .int .i64 kb, .int .i64 kc, .int .i64 kd, .int .i64 ke, .int .i64 kf, .slice kp kn kq] 25)).cell? ⟨w.heap.size, 5, none⟩ = some (.int .i64 kf) := C_1.out.cell 5
    have c6_1 : (w.alloc (.cells #[.int .i64 ka, .int .i64 kb, .int .i64 kc, .int .i64 kd, .int .i64 ke, .int .i64 kf, .slice kp kn kq] 25)).cell? ⟨w.heap.size, 6, none⟩ = some (.slice kp kn kq) := C_1.out.cell 6
    go_enter Tryd.func14, Tryd.ntmps14
    go_wp2_with fail
    refine (N.out _ R_1.out).mono ?_
    rintro e w2 ⟨rfl, hb⟩
    clear c0_1 c1_1 c2_1 c3_1 c4_1 c5_1 c6_1
    have B_2 := Lib.hid (B_1.out.trans (hb.mono B_1.out.size))
    have R_2 := Lib.hid (Tabl.on R_1.out hb)
    have C_2 := Lib.hid (C_1.out.below hb C_1.out.lt)
    clear B_1 R_1 C_1
    clear hb 
    have c0_2 : w2.cell? ⟨w.heap.size, 0, none⟩ = some (.int .i64 ka) := C_2.out.cell 0
    have c1_2 : w2.cell? ⟨w.heap.size, 1, none⟩ = some (.int .i64 kb) := C_2.out.cell 1
    have c2_2 : w2.cell? ⟨w.heap.size, 2, none⟩ = some (.int .i64 kc) := C_2.out.cell 2
    have c3_2 : w2.cell? ⟨w.heap.size, 3, none⟩ = some (.int .i64 kd) := C_2.out.cell 3
    have c4_2 : w2.cell? ⟨w.heap.size, 4, none⟩ = some (.int .i64 ke) := C_2.out.cell 4
    have c5_2 : w2.cell? ⟨w.heap.size, 5, none⟩ = some (.int .i64 kf) := C_2.out.cell 5
    have c6_2 : w2.cell? ⟨w.heap.size, 6, none⟩ = some (.slice kp kn kq) := C_2.out.cell 6
    go_wp2_with fail
    refine (M.out _).mono ?_
    rintro e w3 ⟨rfl, hb⟩
    clear c0_2 c1_2 c2_2 c3_2 c4_2 c5_2 c6_2
    have B_3 := Lib.hid (B_2.out.trans (hb.mono B_2.out.size))
    have R_3 := Lib.hid (Tabl.on R_2.out hb)
    have C_3 := Lib.hid (C_2.out.below hb C_2.out.lt)
    clear B_2 R_2 C_2
    clear hb 
    have B_4 := Lib.hid (B_3.out.alloc B_3.out.size (.cells #[.int .i64 kb, .int .i64 kc, .int .i64 kd, .int .i64 ke, .int .i64 kf] 42))
    have R_4 := Lib.hid (Tabl.on R_3.out (alloc_below w3 (.cells #[.int .i64 kb, .int .i64 kc, .int .i64 kd, .int .i64 ke, .int .i64 kf] 42)))
    have C_4 := Lib.hid (C_3.out.alloc (.cells #[.int .i64 kb, .int .i64 kc, .int .i64 kd, .int .i64 ke, .int .i64 kf] 42))
    clear B_3 R_3 C_3
    have D_4 := Lib.hid (Lies.new w3 42 #[.int .i64 kb, .int .i64 kc, .int .i64 kd, .int .i64 ke, .int .i64 kf])
    go_wp2_with fail
    clear N M
    obtain ⟨wd, hwd⟩ : ∃ wd, (w3.alloc (.cells #[.int .i64 kb, .int .i64 kc, .int .i64 kd, .int .i64 ke, .int .i64 kf] 42)) = wd := ⟨_, rfl⟩
    rw [hwd] at B_4
    rw [hwd] at R_4
    rw [hwd] at C_4
    rw [hwd] at D_4
    rw [hwd]
    have hwd2 := Lib.hid hwd
    clear hwd
    have hb : Below wd.heap.size wd wd.drew := ⟨rfl, rfl, rfl, Nat.le_refl _, fun _ _ => rfl⟩
    have B_5 := Lib.hid (B_4.out.trans (hb.mono B_4.out.size))
    have R_5 := Lib.hid (Tabl.on R_4.out hb)
    have C_5 := Lib.hid (C_4.out.below hb C_4.out.lt)
    have D_5 := Lib.hid (D_4.out.below hb D_4.out.lt)
    clear B_4 R_4 C_4 D_4
    clear hb
    have c0_5 : wd.drew.cell? ⟨w.heap.size, 0, none⟩ = some (.int .i64 ka) := C_5.out.cell 0
    have c1_5 : wd.drew.cell? ⟨w.heap.size, 1, none⟩ = some (.int .i64 kb) := C_5.out.cell 1
    have c2_5 : wd.drew.cell? ⟨w.heap.size, 2, none⟩ = some (.int .i64 kc) := C_5.out.cell 2
    have c3_5 : wd.drew.cell? ⟨w.heap.size, 3, none⟩ = some (.int .i64 kd) := C_5.out.cell 3
    have c4_5 : wd.drew.cell? ⟨w.heap.size, 4, none⟩ = some (.int .i64 ke) := C_5.out.cell 4
    have c5_5 : wd.drew.cell? ⟨w.heap.size, 5, none⟩ = some (.int .i64 kf) := C_5.out.cell 5
    have c6_5 : wd.drew.cell? ⟨w.heap.size, 6, none⟩ = some (.slice kp kn kq) := C_5.out.cell 6
    have d0_5 : wd.drew.cell? ⟨w3.heap.size, 0, none⟩ = some (.int .i64 kb) := D_5.out.cell 0
    have d1_5 : wd.drew.cell? ⟨w3.heap.size, 1, none⟩ = some (.int .i64 kc) := D_5.out.cell 1
    have d2_5 : wd.drew.cell? ⟨w3.heap.size, 2, none⟩ = some (.int .i64 kd) := D_5.out.cell 2
    have d3_5 : wd.drew.cell? ⟨w3.heap.size, 3, none⟩ = some (.int .i64 ke) := D_5.out.cell 3
    have d4_5 : wd.drew.cell? ⟨w3.heap.size, 4, none⟩ = some (.int .i64 kf) := D_5.out.cell 4
    refine region_T 15 (fun w' => w'.cell? ⟨w.heap.size, 0, none⟩ = some (.int .i64 ka) ∧ w'.cell? ⟨w.heap.size, 1, none⟩ = some (.int .i64 kb) ∧ w'.cell? ⟨w.heap.size, 2, none⟩ = some (.int .i64 kc) ∧ w'.cell? ⟨w.heap.size, 3, none⟩ = some (.int .i64 kd) ∧ w'.cell? ⟨w.heap.size, 4, none⟩ = some (.int .i64 ke) ∧ w'.cell? ⟨w.heap.size, 5, none⟩ = some (.int .i64 kf) ∧ w'.cell? ⟨w.heap.size, 6, none⟩ = some (.slice kp kn kq) ∧ w'.cell? ⟨w3.heap.size, 0, none⟩ = some (.int .i64 kb) ∧ w'.cell? ⟨w3.heap.size, 1, none⟩ = some (.int .i64 kc) ∧ w'.cell? ⟨w3.heap.size, 2, none⟩ = some (.int .i64 kd) ∧ w'.cell? ⟨w3.heap.size, 3, none⟩ = some (.int .i64 ke) ∧ w'.cell? ⟨w3.heap.size, 4, none⟩ = some (.int .i64 kf)) (by kernel_rfl) ⟨c0_5, c1_5, c2_5, c3_5, c4_5, c5_5, c6_5, d0_5, d1_5, d2_5, d3_5, d4_5⟩ (fun hS => ?_)
    clear c0_5 c1_5 c2_5 c3_5 c4_5 c5_5 c6_5 d0_5 d1_5 d2_5 d3_5 d4_5
    refine tk 0 ?_
    refine tk 1 ?_
    refine tk 2 ?_
    refine tk 3 ?_
    refine tk 4 ?_
    refine oneL (i := 5) (by kernel_rfl) rfl (fun K hK => ?_)
    go_simp
    clear hS
    refine (RM.out _).mono ?_
    rintro e w6 ⟨rfl, hb⟩
    have B_6 := Lib.hid (B_5.out.trans (hb.mono B_5.out.size))
    have R_6 := Lib.hid (Tabl.on R_5.out hb)
    have C_6 := Lib.hid (C_5.out.below hb C_5.out.lt)
    have D_6 := Lib.hid (D_5.out.below hb D_5.out.lt)
    clear B_5 R_5 C_5 D_5
    clear hb RM
    have c0_6 : w6.cell? ⟨w.heap.size, 0, none⟩ = some (.int .i64 ka) := C_6.out.cell 0
    have c1_6 : w6.cell? ⟨w.heap.size, 1, none⟩ = some (.int .i64 kb) := C_6.out.cell 1
    have c2_6 : w6.cell? ⟨w.heap.size, 2, none⟩ = some (.int .i64 kc) := C_6.out.cell 2
    have c3_6 : w6.cell? ⟨w.heap.size, 3, none⟩ = some (.int .i64 kd) := C_6.out.cell 3
    have c4_6 : w6.cell? ⟨w.heap.size, 4, none⟩ = some (.int .i64 ke) := C_6.out.cell 4
    have c5_6 : w6.cell? ⟨w.heap.size, 5, none⟩ = some (.int .i64 kf) := C_6.out.cell 5
    have c6_6 : w6.cell? ⟨w.heap.size, 6, none⟩ = some (.slice kp kn kq) := C_6.out.cell 6
    have d0_6 : w6.cell? ⟨w3.heap.size, 0, none⟩ = some (.int .i64 kb) := D_6.out.cell 0
    have d1_6 : w6.cell? ⟨w3.heap.size, 1, none⟩ = some (.int .i64 kc) := D_6.out.cell 1
    have d2_6 : w6.cell? ⟨w3.heap.size, 2, none⟩ = some (.int .i64 kd) := D_6.out.cell 2
    have d3_6 : w6.cell? ⟨w3.heap.size, 3, none⟩ = some (.int .i64 ke) := D_6.out.cell 3
    have d4_6 : w6.cell? ⟨w3.heap.size, 4, none⟩ = some (.int .i64 kf) := D_6.out.cell 4
    refine hK.out _ _ (fun _ => ⟨c0_6, c1_6, c2_6, c3_6, c4_6, c5_6, c6_6, d0_6, d1_6, d2_6, d3_6, d4_6⟩) ?_
    clear hK K
    try simp only [Act.put, List.setIfInBounds_toArray, List.set_cons_zero, List.set_cons_succ]
    have hS := And.intro c0_6 (And.intro c1_6 (And.intro c2_6 (And.intro c3_6 (And.intro c4_6 (And.intro c5_6 (And.intro c6_6 (And.intro d0_6 (And.intro d1_6 (And.intro d2_6 (And.intro d3_6 (d4_6)))))))))))
    clear c0_6 c1_6 c2_6 c3_6 c4_6 c5_6 c6_6 d0_6 d1_6 d2_6 d3_6 d4_6
    by_cases h9 : ((kn : Nat) : Int) ≤ rm
    · have t9 : decide (((kn : Nat) : Int) ≤ rm) = true := by simpa using h9
      refine tk 6 ?_
      refine tk 7 ?_
      refine tk 8 ?_
      refine tk 9 ?_
      refine tk 10 ?_
      refine oneL (i := 11) (by kernel_rfl) rfl (fun K hK => ?_)
      go_simp
      clear hS
      refine (PF.out _).mono ?_
      rintro e w7 ⟨rfl, hb⟩
      have B_7 := Lib.hid (B_6.out.trans (hb.mono B_6.out.size))
      have R_7 := Lib.hid (Tabl.on R_6.out hb)
      have C_7 := Lib.hid (C_6.out.below hb C_6.out.lt)
      have D_7 := Lib.hid (D_6.out.below hb D_6.out.lt)
      clear B_6 R_6 C_6 D_6
      clear hb PF
      have c0_7 : w7.cell? ⟨w.heap.size, 0, none⟩ = some (.int .i64 ka) := C_7.out.cell 0
      have c1_7 : w7.cell? ⟨w.heap.size, 1, none⟩ = some (.int .i64 kb) := C_7.out.cell 1
      have c2_7 : w7.cell? ⟨w.heap.size, 2, none⟩ = some (.int .i64 kc) := C_7.out.cell 2
      have c3_7 : w7.cell? ⟨w.heap.size, 3, none⟩ = some (.int .i64 kd) := C_7.out.cell 3
      have c4_7 : w7.cell? ⟨w.heap.size, 4, none⟩ = some (.int .i64 ke) := C_7.out.cell 4
      have c5_7 : w7.cell? ⟨w.heap.size, 5, none⟩ = some (.int .i64 kf) := C_7.out.cell 5
      have c6_7 : w7.cell? ⟨w.heap.size, 6, none⟩ = some (.slice kp kn kq) := C_7.out.cell 6
      have d0_7 : w7.cell? ⟨w3.heap.size, 0, none⟩ = some (.int .i64 kb) := D_7.out.cell 0
      have d1_7 : w7.cell? ⟨w3.heap.size, 1, none⟩ = some (.int .i64 kc) := D_7.out.cell 1
      have d2_7 : w7.cell? ⟨w3.heap.size, 2, none⟩ = some (.int .i64 kd) := D_7.out.cell 2
      have d3_7 : w7.cell? ⟨w3.heap.size, 3, none⟩ = some (.int .i64 ke) := D_7.out.cell 3
      have d4_7 : w7.cell? ⟨w3.heap.size, 4, none⟩ = some (.int .i64 kf) := D_7.out.cell 4
      refine hK.out _ _ (fun _ => ⟨c0_7, c1_7, c2_7, c3_7, c4_7, c5_7, c6_7, d0_7, d1_7, d2_7, d3_7, d4_7⟩) ?_
      clear hK K
      try simp only [Act.put, List.setIfInBounds_toArray, List.set_cons_zero, List.set_cons_succ]
      have hS := And.intro c0_7 (And.intro c1_7 (And.intro c2_7 (And.intro c3_7 (And.intro c4_7 (And.intro c5_7 (And.intro c6_7 (And.intro d0_7 (And.intro d1_7 (And.intro d2_7 (And.intro d3_7 (d4_7)))))))))))
      clear c0_7 c1_7 c2_7 c3_7 c4_7 c5_7 c6_7 d0_7 d1_7 d2_7 d3_7 d4_7
      have q0 := fun W => Q.out W
      refine tk 12 ?_
      refine tk 13 ?_
      refine tk 14 ?_
      refine doneO (by kernel_rfl) ?_ _
      clear hS
      go_wp2
      go_ret
      exact ⟨by simp [t9], B_7.out⟩
    · have t9 : decide (((kn : Nat) : Int) ≤ rm) = false := by simpa using h9
      refine tk 6 ?_
      refine tk 7 ?_
      refine takeL (i := 8) (v := undef) rfl (by kernel_rfl) (by kernel_rfl) (by kernel_rfl) (by kernel_rfl) (by kernel_rfl) (fun _ _ _ h => h) (Or.inr ⟨by rfl, rfl⟩) (by assumption) ?_
      try simp only [Act.put, List.setIfInBounds_toArray, List.set_cons_zero, List.set_cons_succ]
      refine takeL (i := 9) (v := undef) rfl (by kernel_rfl) (by kernel_rfl) (by kernel_rfl) (by kernel_rfl) (by kernel_rfl) (fun _ _ _ h => h) (Or.inr ⟨by rfl, rfl⟩) (by assumption) ?_
      try simp only [Act.put, List.setIfInBounds_toArray, List.set_cons_zero, List.set_cons_succ]
      refine takeL (i := 10) (v := undef) rfl (by kernel_rfl) (by kernel_rfl) (by kernel_rfl) (by kernel_rfl) (by kernel_rfl) (fun _ _ _ h => h) (Or.inr ⟨by rfl, rfl⟩) (by assumption) ?_
      try simp only [Act.put, List.setIfInBounds_toArray, List.set_cons_zero, List.set_cons_succ]
      refine takeL (i := 11) (v := undef) rfl (by kernel_rfl) (by kernel_rfl) (by kernel_rfl) (by kernel_rfl) (by kernel_rfl) (fun _ _ _ h => h) (Or.inr ⟨by rfl, rfl⟩) (by assumption) ?_
      try simp only [Act.put, List.setIfInBounds_toArray, List.set_cons_zero, List.set_cons_succ]
      refine takeL (i := 12) (v := undef) rfl (by kernel_rfl) (by kernel_rfl) (by kernel_rfl) (by kernel_rfl) (by kernel_rfl) (fun _ _ _ h => h) (Or.inr ⟨by rfl, rfl⟩) (by assumption) ?_
      try simp only [Act.put, List.setIfInBounds_toArray, List.set_cons_zero, List.set_cons_succ]
      refine tk 13 ?_
      refine tk 14 ?_
      refine doneO (by kernel_rfl) ?_ _
      clear hS
      go_wp2
      go_ret
      exact ⟨by simp, B_6.out⟩
end Cm
end Go.Proofs.YtbahilakfgbgpaaDoor
