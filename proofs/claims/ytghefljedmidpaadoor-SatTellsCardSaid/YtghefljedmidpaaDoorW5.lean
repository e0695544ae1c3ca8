/- Walks over the two laws of layer 2: each call returns true. Condition: the table of powers of ten is as the program lays it; the list's cells hold whole numbers. -/
import Derived.Test.YtghefljedmidpaaDoorW4
namespace Go.Proofs.YtghefljedmidpaaDoor
open Go.RowKit Go.Sort

namespace St
theorem cap_lt {n : Int} (h : cap n < 4611686018427387904) : cap n = n := by
  revert h; unfold cap; split <;> intro h <;> omega
theorem cap_ge {a b : Int} (hb : 0 ≤ b) (h : a ≤ 4611686018427387904) : a ≤ cap (a + b) := by unfold cap; split <;> omega
end St

theorem alive_at (w : World) (hr : Ready w) : Calls Tryd.prog 5 #[] w fun e w' => e = .returned (.bool true) ∧ Below w.heap.size w w' := alive_any w hr

set_option maxRecDepth 100000 in
set_option maxHeartbeats 4000000 in
theorem laws_any (a : Int) (_ : (Lit.int .i64 a).wf = true) (b : Int) (_ : (Lit.int .i64 b).wf = true) (c : Int) (_ : (Lit.int .i64 c).wf = true) (w : World) (hr : Ready w) :
    Calls Tryd.prog 4 #[.int .i64 a, .int .i64 b, .int .i64 c] w fun e w' => e = .returned (.bool true) ∧ Below w.heap.size w w' := by
  have hA := St.fit_bd a
  have hB := St.fit_bd b
  have hC := St.fit_bd c
  have fs := St.fit_fit
  obtain ⟨s, hs⟩ : ∃ s, St.cap (St.fit a + St.fit b) = s := ⟨_, rfl⟩
  obtain ⟨u, hu⟩ : ∃ u, St.cap (St.fit b + St.fit c) = u := ⟨_, rfl⟩
  obtain ⟨t, ht⟩ : ∃ t, St.cap (St.fit a + (St.fit b + St.fit c)) = t := ⟨_, rfl⟩
  obtain ⟨p, hp⟩ : ∃ p, St.cap (St.fit a * St.fit b) = p := ⟨_, rfl⟩
  obtain ⟨v, hv⟩ : ∃ v, St.cap (St.fit b * St.fit c) = v := ⟨_, rfl⟩
  obtain ⟨m, hm⟩ : ∃ m, St.cap (St.fit a * St.fit b * St.fit c) = m := ⟨_, rfl⟩
  have fit_s : St.fit s = s := by have := St.cap_bd (n := St.fit a + St.fit b) (by omega); exact St.fit_mid (by omega) (by omega)
  have fit_u : St.fit u = u := by have := St.cap_bd (n := St.fit b + St.fit c) (by omega); exact St.fit_mid (by omega) (by omega)
  have fit_p : St.fit p = p := by have := St.cap_bd (n := St.fit a * St.fit b) (Int.mul_nonneg hA.1 hB.1); exact St.fit_mid (by omega) (by omega)
  have fit_v : St.fit v = v := by have := St.cap_bd (n := St.fit b * St.fit c) (Int.mul_nonneg hB.1 hC.1); exact St.fit_mid (by omega) (by omega)
  have e1 : St.cap (St.fit b + St.fit a) = s := by rw [Int.add_comm]; exact hs
  have e2 : St.cap (St.fit s + St.fit c) = t := by rw [fit_s, ← hs, St.cap_cap_add _ _ hC.1, Int.add_assoc]; exact ht
  have e3 : St.cap (St.fit a + St.fit u) = t := by rw [fit_u, ← hu, St.cap_add_cap _ _ hA.1]; exact ht
  have e4 : St.cap (St.fit b * St.fit a) = p := by rw [Int.mul_comm]; exact hp
  have e5 : St.cap (St.fit p * St.fit c) = m := by rw [fit_p, ← hp, St.cap_mul_cap hC.1]; exact hm
  have e6 : St.cap (St.fit a * St.fit v) = m := by rw [fit_v, ← hv, St.cap_mul_cap_r hA.1]; exact hm
  have g1 : St.fit a ≤ s := by rw [← hs]; exact St.cap_ge hB.1 hA.2
  have g2 : St.fit b ≤ s := by rw [← e1]; exact St.cap_ge hA.1 hB.2
  have l1 : s < 4611686018427387904 → St.fit (St.fit s - St.fit b) = St.fit a := fun h => by
    rw [← hs] at h
    have hx := St.cap_lt h
    rw [fit_s, ← hs, hx, show St.fit a + St.fit b - St.fit b = St.fit a by omega, fs]
  have l2 : s < 4611686018427387904 → St.fit (St.fit s - St.fit a) = St.fit b := fun h => by
    rw [← hs] at h
    have hx := St.cap_lt h
    rw [fit_s, ← hs, hx, show St.fit a + St.fit b - St.fit a = St.fit b by omega, fs]
  have e7 : St.cap (St.fit a * St.fit 1) = St.fit a := by rw [show St.fit 1 = 1 by decide, Int.mul_one]; exact St.cap_mid hA.2
  have e8 : St.cap (St.fit a * St.fit 0) = 0 := by rw [show St.fit 0 = 0 by decide, Int.mul_zero]; decide
  have e9 : St.cap (St.fit a) = St.fit a := St.cap_mid hA.2
  have e10 : St.fit (St.fit a) = St.fit a := fs a
  have K1 := Lib.hid (add2 a b s hs)
  have K2 := Lib.hid (mul_at a b p hp)
  have K3 := Lib.hid (add2 b a s e1)
  have K4 := Lib.hid (mul_at b a p e4)
  have K5 := Lib.hid (add2 s c t e2)
  have K6 := Lib.hid (add2 b c u hu)
  have K7 := Lib.hid (add2 a u t e3)
  have K8 := Lib.hid (add3 a b c t ht)
  have K9 := Lib.hid (mul_at p c m e5)
  have K10 := Lib.hid (mul_at b c v hv)
  have K11 := Lib.hid (mul_at a v m e6)
  have L1 := Lib.hid (fun h => less_at s b _ (l1 h))
  have L2 := Lib.hid (fun h => less_at s a _ (l2 h))
  have M1 := Lib.hid (mul_at a 1 _ e7)
  have M2 := Lib.hid (mul_at a 0 _ e8)
  have M3 := Lib.hid (add1 a _ e9)
  have M4 := Lib.hid (fit_at (St.fit a) _ e10)
  have FA := Lib.hid (fit_any a)
  have FB := Lib.hid (fit_any b)
  clear hs hu ht hp hv hm fit_s fit_u fit_p fit_v e1 e2 e3 e4 e5 e6 l1 l2 e7 e8 e9 e10 fs hC
  generalize St.fit a = A at *
  generalize St.fit b = B at *
  by_cases hlt : s < 4611686018427387904
  all_goals
    go_enter Tryd.func4, Tryd.ntmps4
    go_wp2_with fail
    refine (K1.out _).mono ?_
    rintro e w1 ⟨rfl, hb1⟩
    have hr1 := hr.on hb1
    go_wp2_with fail
    refine (K2.out _).mono ?_
    rintro e w' ⟨rfl, rfl⟩
    go_wp2_with fail
    refine (K3.out _).mono ?_
    rintro e w2 ⟨rfl, hb2⟩
    have hr2 := hr1.on hb2
    have hb2' := bl_trans hb1 hb2
    clear hb1 hb2 hr1 hr
    go_wp2_with fail
    refine (K4.out _).mono ?_
    rintro e w' ⟨rfl, rfl⟩
    go_wp2_with fail
    refine (K5.out _).mono ?_
    rintro e w3 ⟨rfl, hb3⟩
    have hr3 := hr2.on hb3
    have hb3' := bl_trans hb2' hb3
    clear hb2' hb3 hr2
    go_wp2_with fail
    refine (K6.out _).mono ?_
    rintro e w4 ⟨rfl, hb4⟩
    have hr4 := hr3.on hb4
    have hb4' := bl_trans hb3' hb4
    clear hb3' hb4 hr3
    go_wp2_with fail
    refine (K7.out _).mono ?_
    rintro e w5 ⟨rfl, hb5⟩
    have hr5 := hr4.on hb5
    have hb5' := bl_trans hb4' hb5
    clear hb4' hb5 hr4
    go_wp2_with fail
    refine (K8.out _).mono ?_
    rintro e w6 ⟨rfl, hb6⟩
    have hr6 := hr5.on hb6
    have hb6' := bl_trans hb5' hb6
    clear hb5' hb6 hr5
    go_wp2_with fail
    refine (K5.out _).mono ?_
    rintro e w7 ⟨rfl, hb7⟩
    have hr7 := hr6.on hb7
    have hb7' := bl_trans hb6' hb7
    clear hb6' hb7 hr6
    go_wp2_with fail
    refine (K9.out _).mono ?_
    rintro e w' ⟨rfl, rfl⟩
    go_wp2_with fail
    refine (K10.out _).mono ?_
    rintro e w' ⟨rfl, rfl⟩
    go_wp2_with fail
    refine (K11.out _).mono ?_
    rintro e w' ⟨rfl, rfl⟩
    go_wp2_with fail
    refine (FA.out _).mono ?_
    rintro e w' ⟨rfl, rfl⟩
    go_wp2_with fail
    refine (FB.out _).mono ?_
    rintro e w' ⟨rfl, rfl⟩
  · go_wp2_with fail
    refine (L1.out hlt _).mono ?_
    rintro e w' ⟨rfl, rfl⟩
    go_wp2_with fail
    refine (FA.out _).mono ?_
    rintro e w' ⟨rfl, rfl⟩
    go_wp2_with fail
    refine (L2.out hlt _).mono ?_
    rintro e w' ⟨rfl, rfl⟩
    go_wp2_with fail
    refine (FB.out _).mono ?_
    rintro e w' ⟨rfl, rfl⟩
    go_wp2_with fail
    refine (alive_at _ hr7).mono ?_
    rintro e w8 ⟨rfl, hb8⟩
    have hb8' := bl_trans hb7' hb8
    clear hb7' hb8 hr7
    go_wp2_with fail
    refine (M1.out _).mono ?_
    rintro e w' ⟨rfl, rfl⟩
    go_wp2_with fail
    refine (FA.out _).mono ?_
    rintro e w' ⟨rfl, rfl⟩
    go_wp2_with fail
    refine (M2.out _).mono ?_
    rintro e w' ⟨rfl, rfl⟩
    go_wp2_with fail
    refine (M3.out _).mono ?_
    rintro e w9 ⟨rfl, hb9⟩
    have hb9' := bl_trans hb8' hb9
    clear hb8' hb9
    go_wp2_with fail
    refine (FA.out _).mono ?_
    rintro e w' ⟨rfl, rfl⟩
    go_wp2_with fail
    refine (add_nil _ _ _).mono ?_
    rintro e w' ⟨rfl, rfl⟩
    go_wp2_with fail
    refine (FA.out _).mono ?_
    rintro e w' ⟨rfl, rfl⟩
    go_wp2_with fail
    refine (M4.out _).mono ?_
    rintro e w' ⟨rfl, rfl⟩
    go_wp2_with fail
    refine (FA.out _).mono ?_
    rintro e w' ⟨rfl, rfl⟩
    go_wp2
    go_ret
    exact ⟨rfl, hb9'⟩
  · go_wp2_with fail
    refine (alive_at _ hr7).mono ?_
    rintro e w8 ⟨rfl, hb8⟩
    have hb8' := bl_trans hb7' hb8
    clear hb7' hb8 hr7
    go_wp2_with fail
    refine (M1.out _).mono ?_
    rintro e w' ⟨rfl, rfl⟩
    go_wp2_with fail
    refine (FA.out _).mono ?_
    rintro e w' ⟨rfl, rfl⟩
    go_wp2_with fail
    refine (M2.out _).mono ?_
    rintro e w' ⟨rfl, rfl⟩
    go_wp2_with fail
    refine (M3.out _).mono ?_
    rintro e w9 ⟨rfl, hb9⟩
    have hb9' := bl_trans hb8' hb9
    clear hb8' hb9
    go_wp2_with fail
    refine (FA.out _).mono ?_
    rintro e w' ⟨rfl, rfl⟩
    go_wp2_with fail
    refine (add_nil _ _ _).mono ?_
    rintro e w' ⟨rfl, rfl⟩
    go_wp2_with fail
    refine (FA.out _).mono ?_
    rintro e w' ⟨rfl, rfl⟩
    go_wp2_with fail
    refine (M4.out _).mono ?_
    rintro e w' ⟨rfl, rfl⟩
    go_wp2_with fail
    refine (FA.out _).mono ?_
    rintro e w' ⟨rfl, rfl⟩
    go_wp2
    go_ret
    exact ⟨rfl, hb9'⟩

set_option maxHeartbeats 1000000 in
theorem tells_long (a b : Int) (v : Value) (len cap : Nat) (p : Option Addr) (hv : v = .slice p len cap) (h : 200 < len) (hm : len ≤ 9223372036854775807) (w : World) (hr : Ready w) :
    Calls Tryd.prog 3 #[.int .i64 a, .int .i64 b, v] w fun e w' => e = .returned (.bool true) ∧ Below w.heap.size w w' := by
  subst hv
  have h' : (200 : Int) < len := by omega
  go_enter Tryd.func3, Tryd.ntmps3
  go_wp2_with fail
  refine (alive_at _ hr).mono ?_
  rintro e w' ⟨rfl, hb⟩
  go_wp2
  go_ret
  exact ⟨rfl, hb⟩

set_option maxHeartbeats 1000000 in
theorem tells_short (a b r : Int) (v : Value) (len cap : Nat) (p : Option Addr) (hv : v = .slice p len cap) (h : len ≤ 200) (w : World) (hr : Ready w)
    (K1 : ∀ W, Below w.heap.size w W → Calls Tryd.prog 12 #[v] W fun e w' => e = .returned (.int .i64 r) ∧ W = w')
    (K2 : ∀ W, Below w.heap.size w W → Calls Tryd.prog 13 #[v] W fun e w' => e = .returned (.int .i64 r) ∧ W = w') :
    Calls Tryd.prog 3 #[.int .i64 a, .int .i64 b, v] w fun e w' => e = .returned (.bool true) ∧ Below w.heap.size w w' := by
  subst hv
  have K1' := Lib.hid K1
  have K2' := Lib.hid K2
  have F1 := Lib.hid (fit_any a)
  have F2 := Lib.hid (rfit_any a)
  have M1 := Lib.hid (mul_any a b)
  have M2 := Lib.hid (rmul_any a b)
  have L1 := Lib.hid (less_any a b)
  have L2 := Lib.hid (rless_any a b)
  have T1 := Lib.hid (text_any a)
  have T2 := Lib.hid (rtext_any a)
  clear K1 K2
  generalize St.cap (St.fit a * St.fit b) = m at *
  generalize St.fit (St.fit a - St.fit b) = l at *
  generalize St.fit a = f at *
  generalize St.txt a = t at *
  have h' : (len : Int) ≤ 200 := by omega
  go_enter Tryd.func3, Tryd.ntmps3
  go_wp2_with fail
  refine (alive_at _ hr).mono ?_
  rintro e w1 ⟨rfl, hb1⟩
  have hr1 := hr.on hb1
  go_wp2_with fail
  refine (F1.out _).mono ?_
  rintro e w' ⟨rfl, rfl⟩
  go_wp2_with fail
  refine (F2.out _).mono ?_
  rintro e w' ⟨rfl, rfl⟩
  go_wp2_with fail
  refine (M1.out _).mono ?_
  rintro e w' ⟨rfl, rfl⟩
  go_wp2_with fail
  refine (M2.out _).mono ?_
  rintro e w' ⟨rfl, rfl⟩
  go_wp2_with fail
  refine (L1.out _).mono ?_
  rintro e w' ⟨rfl, rfl⟩
  go_wp2_with fail
  refine (L2.out _).mono ?_
  rintro e w' ⟨rfl, rfl⟩
  go_wp2_with fail
  refine (K1'.out _ hb1).mono ?_
  rintro e w' ⟨rfl, rfl⟩
  go_wp2_with fail
  refine (K2'.out _ hb1).mono ?_
  rintro e w' ⟨rfl, rfl⟩
  go_wp2_with fail
  refine (T1.out _ hr1).mono ?_
  rintro e w2 ⟨rfl, hb2⟩
  go_wp2_with fail
  refine (T2.out _).mono ?_
  rintro e w3 ⟨rfl, hb3⟩
  have hb := bl_trans (bl_trans hb1 hb2) hb3
  clear hb1 hb2 hb3
  go_wp2
  go_ret
  exact ⟨rfl, hb⟩

/-- What the walk is told of a list of whole numbers that came in: it is nil; or it leads to a row of 'cap' cells, the numbers 'zs'. -/
def IsRow (k : IntKind) (w : World) (a : Option Addr) (len cap : Nat) (zs : List Int) : Prop :=
  (a = none ∧ len = 0 ∧ cap = 0 ∧ zs = []) ∨
  ∃ x, a = some x ∧ len ≤ cap ∧ cap ≤ maxLen ∧ zs.length = cap ∧ (∀ i, i < zs.length → w.cell? (x.add i) = some (.int k (zs.getD i 0))) ∧ ∀ n ∈ zs, (Lit.int k n).wf = true

theorem tells_any (a : Int) (_ : (Lit.int .i64 a).wf = true) (b : Int) (_ : (Lit.int .i64 b).wf = true) (p : Option Addr) (len cap : Nat) (zs : List Int) (w : World) (hrow : IsRow .i64 w p len cap zs) (hr : Ready w) :
    Calls Tryd.prog 3 #[.int .i64 a, .int .i64 b, .slice p len cap] w fun e w' => e = .returned (.bool true) ∧ Below w.heap.size w w' := by
  by_cases h0 : len = 0
  · subst h0
    exact tells_short a b 0 _ 0 cap p rfl (by omega) w hr (fun W _ => add_nil p cap W) (fun W _ => radd_nil p cap W)
  rcases hrow with ⟨_, h, _⟩ | ⟨x, rfl, hl, hm, hz, hcell, _⟩
  · exact absurd h h0
  obtain ⟨bk, off, spot⟩ := x
  have hc0 := hcell 0 (by omega)
  have hspot : spot = none := by simpa [Addr.add] using World.cell?_spot hc0
  subst hspot
  have hc : ∀ j, j < zs.length → w.cell? ⟨bk, off + j, none⟩ = some (.int .i64 (zs.getD j 0)) := fun j hj => by
    have := hcell j hj
    rw [← this]
    unfold Addr.add
    split
    · rename_i h; subst h; rfl
    · rfl
  have hlt : bk < w.heap.size := block_lt_of_cell (hc 0 (by omega))
  unfold maxLen at hm
  by_cases h2 : 200 < len
  · exact tells_long a b _ len cap _ rfl h2 (by omega) w hr
  · have hC : ∀ W, Below w.heap.size w W → ∀ j, j < zs.length → W.cell? ⟨bk, off + j, none⟩ = some (.int .i64 (zs.getD j 0)) := fun W hW j hj => (hW.cell (p := ⟨bk, off + j, none⟩) hlt).trans (hc j hj)
    exact tells_short a b _ _ len cap _ rfl (by omega) w hr (fun W hW => add_any bk off len cap zs W (by omega) (by omega) (hC W hW)) (fun W hW => radd_any bk off len cap zs W (by omega) (by omega) (hC W hW))
end Go.Proofs.YtghefljedmidpaaDoor
