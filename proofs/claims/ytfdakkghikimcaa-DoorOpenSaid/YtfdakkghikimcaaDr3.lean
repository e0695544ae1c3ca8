/- Walks over the document's answer of layer 8: whether two lists are one. No condition but those written. -/
import Derived.Test.YtfdakkghikimcaaDr2
namespace Go.Proofs.Ytfdakkghikimcaa
open Go.RowKit

namespace Dr
open Se
def ucells (r : Ru) : List Value := [.int .i64 r.a, .int .i64 r.b]
theorem ucells_len (r : Ru) : (ucells r).length = 2 := rfl
theorem takes {α : Type} {l l2 : List α} {k : Nat} {x : α} (h : l.take k = l2.take k) (hx : l[k]? = some x) (hy : l2[k]? = some x) : l.take (k + 1) = l2.take (k + 1) := by
  rw [List.take_add_one, List.take_add_one, h, hx, hy]
theorem nots {α : Type} [DecidableEq α] {l l2 : List α} {k : Nat} {x y : α} (hx : l[k]? = some x) (hy : l2[k]? = some y) (h : x ≠ y) : decide (l = l2) = false := by
  rw [decide_eq_false_iff_not]
  rintro rfl
  rw [hx] at hy
  exact h (Option.some.inj hy)
theorem dmarks_other (p q : Option Addr) (n m c d : Nat) (w : World) (h : ¬ n = m) :
    Calls Try.prog 10 #[.slice p n c, .slice q m d] w fun e w' => e = .returned (.bool false) ∧ w = w' := by
  have h' : ¬ (n : Int) = (m : Int) := by omega
  have h1 : ((n : Int) != (m : Int)) = true := by simp; omega
  go_enter Try.func10, Try.ntmps10
  go_wp2
  go_ret
  exact ⟨rfl, rfl⟩
theorem dmarks_nil (p q : Option Addr) (c d : Nat) (w : World) : Calls Try.prog 10 #[.slice p 0 c, .slice q 0 d] w fun e w' => e = .returned (.bool true) ∧ w = w' := by
  go_enter Try.func10, Try.ntmps10
  go_wp2
  go_loop [5] (fun i => i = .int .i64 0) (fun i => 0)
  case atStart => rfl
  case round =>
    obtain rfl := hrel
    go_wp2
    go_ret
    exact ⟨rfl, rfl⟩
set_option maxRecDepth 100000 in
set_option maxHeartbeats 2000000 in
theorem dmarks_some (b o b2 o2 n c d : Nat) (l l2 : List Rd) (w : World) (hn : l.length = n) (hn2 : l2.length = n) (hbig : n ≤ 9223372036854775807) (hB : (∀ x ∈ l, binB x = true) ∧ ∀ x ∈ l2, binB x = true)
    (hc : ∀ j x, l[j]? = some x → ∀ i, i < 3 → w.cell? ⟨b, o + j * 3 + i, none⟩ = (mcells x)[i]?) (hc2 : ∀ j x, l2[j]? = some x → ∀ i, i < 3 → w.cell? ⟨b2, o2 + j * 3 + i, none⟩ = (mcells x)[i]?) :
    Calls Try.prog 10 #[.slice (some ⟨b, o, none⟩) n c, .slice (some ⟨b2, o2, none⟩) n d] w fun e w' => e = .returned (.bool (decide (l = l2))) ∧ ∃ m, w' = w.drewN m := by
  have HB := Lib.hid hB
  clear hB
  have HC := Lib.hid hc
  have HC2 := Lib.hid hc2
  have HN := Lib.hid hn
  have HN2 := Lib.hid hn2
  clear hc hc2 hn hn2
  go_enter Try.func10, Try.ntmps10
  go_wp2
  go_loopw [5] (fun i wr => ∃ k m : Nat, k ≤ n ∧ i = .int .i64 k ∧ wr = w.drewN m ∧ Hid (l.take k = l2.take k)) (fun i _ => n - (intOf i).toNat)
  case atStart => exact ⟨0, 0, Nat.zero_le _, rfl, rfl, Lib.hid (by simp)⟩
  case round =>
    obtain ⟨k, m, hk, rfl, rfl, HT⟩ := hrel
    by_cases hlt : k < n
    · obtain ⟨x, hx⟩ : ∃ x, l[k]? = some x := ⟨_, List.getElem?_eq_getElem (by rw [HN.out]; exact hlt)⟩
      obtain ⟨y, hy⟩ : ∃ y, l2[k]? = some y := ⟨_, List.getElem?_eq_getElem (by rw [HN2.out]; exact hlt)⟩
      have e0 : w.cell? ⟨b, o + k * 3, none⟩ = some (.int .i64 x.min) := HC.out k x hx 0 (by decide)
      have e1 : w.cell? ⟨b, o + k * 3 + 1, none⟩ = some (.int .i64 x.seq) := HC.out k x hx 1 (by decide)
      have e2 : w.cell? ⟨b, o + k * 3 + 2, none⟩ = some (.bool (opB x)) := HC.out k x hx 2 (by decide)
      have f0 : w.cell? ⟨b2, o2 + k * 3, none⟩ = some (.int .i64 y.min) := HC2.out k y hy 0 (by decide)
      have f1 : w.cell? ⟨b2, o2 + k * 3 + 1, none⟩ = some (.int .i64 y.seq) := HC2.out k y hy 1 (by decide)
      have f2 : w.cell? ⟨b2, o2 + k * 3 + 2, none⟩ = some (.bool (opB y)) := HC2.out k y hy 2 (by decide)
      have hk3 : (k : Int) < (n : Int) := by omega
      by_cases h : x = y
      · subst h
        have HT2 := Lib.hid (takes HT.out hx hy)
        clear hx hy
        go_wp2_with fail
        go_quiet (fail)
        go_wp2
        go_roundw
        case rel => exact ⟨k + 1, _, by omega, by go_num, rfl, HT2⟩
        case measure => simp [intOf]; omega
      · have HE := Lib.hid (nots hx hy h)
        have hor : x.min ≠ y.min ∨ (x.min = y.min ∧ x.seq ≠ y.seq) ∨ (x.min = y.min ∧ x.seq = y.seq ∧ opB x ≠ opB y) := by
          by_cases h1 : x.min = y.min
          · by_cases h2 : x.seq = y.seq
            · refine .inr (.inr ⟨h1, h2, fun h3 => h ?_⟩)
              have t3 : x.ten = y.ten := (ten_opB (HB.out.1 x (List.mem_of_getElem? hx))).trans (by rw [h3]; exact (ten_opB (HB.out.2 y (List.mem_of_getElem? hy))).symm)
              clear h hx hy e0 e1 e2 f0 f1 f2
              cases x
              cases y
              simp only at h1 h2 t3
              rw [h1, h2, t3]
            · exact .inr (.inl ⟨h1, h2⟩)
          · exact .inl h1
        clear hx hy h
        generalize opB x = xt at *
        generalize opB y = yt at *
        obtain ⟨xm, xs, _⟩ := x
        obtain ⟨ym, ys, _⟩ := y
        simp only at hor e0 e1 f0 f1
        rcases hor with h1 | ⟨rfl, h2⟩ | ⟨rfl, rfl, h3⟩
        · have t1 : (xm == ym) = false := by simp [h1]
          clear h1
          go_wp2_with fail
          go_quiet (fail)
          go_wp2
          go_ret
          exact ⟨by rw [HE.out]; rfl, _, World.drewN_drewN _ _ _⟩
        · have t1 : (xs == ys) = false := by simp [h2]
          clear h2
          go_wp2_with fail
          go_quiet (fail)
          go_wp2
          go_ret
          exact ⟨by rw [HE.out]; rfl, _, World.drewN_drewN _ _ _⟩
        · have t1 : (xt == yt) = false := by simp [h3]
          clear h3
          go_wp2_with fail
          go_quiet (fail)
          go_wp2
          go_ret
          exact ⟨by rw [HE.out]; rfl, _, World.drewN_drewN _ _ _⟩
    · obtain rfl : k = n := by omega
      have HE := Lib.hid (show decide (l = l2) = true by
        rw [decide_eq_true_eq]
        have := HT.out
        rwa [List.take_of_length_le (by rw [HN.out]; exact Nat.le_refl _), List.take_of_length_le (by rw [HN2.out]; exact Nat.le_refl _)] at this)
      go_wp2
      go_ret
      exact ⟨by rw [HE.out]; rfl, _, rfl⟩
theorem dmarks_any (p q : Option Addr) (n m c d : Nat) (l l2 : List Rd) (w : World) (hn : n ≤ 9223372036854775807) (hB : (∀ x ∈ l, binB x = true) ∧ ∀ x ∈ l2, binB x = true) (h : Rw 3 mcells w p n l) (h2 : Rw 3 mcells w q m l2) :
    Calls Try.prog 10 #[.slice p n c, .slice q m d] w fun e w' => e = .returned (.bool (decide (l = l2))) ∧ ∃ m, w' = w.drewN m := by
  by_cases hm : n = m
  · subst hm
    by_cases h0 : 0 < n
    · obtain ⟨b, o, rfl, hc⟩ := h.2 h0
      obtain ⟨b2, o2, rfl, hc2⟩ := h2.2 h0
      exact dmarks_some b o b2 o2 n c d l l2 w h.1 h2.1 hn hB hc hc2
    · obtain rfl : n = 0 := by omega
      have e1 := List.eq_nil_of_length_eq_zero h.1
      have e2 := List.eq_nil_of_length_eq_zero h2.1
      subst e1 e2
      exact (dmarks_nil p q c d w).mono fun e w' ⟨he, hw⟩ => ⟨by rw [he]; rfl, 0, hw.symm⟩
  · have e : decide (l = l2) = false := by
      rw [decide_eq_false_iff_not]
      rintro rfl
      exact hm (h.1.symm.trans h2.1)
    rw [e]
    exact (dmarks_other p q n m c d w hm).mono fun e w' ⟨he, hw⟩ => ⟨he, 0, hw.symm⟩
theorem dsame_other (p q : Option Addr) (n m c d : Nat) (w : World) (h : ¬ n = m) :
    Calls Try.prog 12 #[.slice p n c, .slice q m d] w fun e w' => e = .returned (.bool false) ∧ w = w' := by
  have h' : ¬ (n : Int) = (m : Int) := by omega
  have h1 : ((n : Int) != (m : Int)) = true := by simp; omega
  go_enter Try.func12, Try.ntmps12
  go_wp2
  go_ret
  exact ⟨rfl, rfl⟩
theorem dsame_nil (p q : Option Addr) (c d : Nat) (w : World) : Calls Try.prog 12 #[.slice p 0 c, .slice q 0 d] w fun e w' => e = .returned (.bool true) ∧ w = w' := by
  go_enter Try.func12, Try.ntmps12
  go_wp2
  go_loop [5] (fun i => i = .int .i64 0) (fun i => 0)
  case atStart => rfl
  case round =>
    obtain rfl := hrel
    go_wp2
    go_ret
    exact ⟨rfl, rfl⟩
set_option maxRecDepth 100000 in
set_option maxHeartbeats 2000000 in
theorem dsame_some (b o b2 o2 n c d : Nat) (l l2 : List Ru) (w : World) (hn : l.length = n) (hn2 : l2.length = n) (hbig : n ≤ 9223372036854775807)
    (hc : ∀ j x, l[j]? = some x → ∀ i, i < 2 → w.cell? ⟨b, o + j * 2 + i, none⟩ = (ucells x)[i]?) (hc2 : ∀ j x, l2[j]? = some x → ∀ i, i < 2 → w.cell? ⟨b2, o2 + j * 2 + i, none⟩ = (ucells x)[i]?) :
    Calls Try.prog 12 #[.slice (some ⟨b, o, none⟩) n c, .slice (some ⟨b2, o2, none⟩) n d] w fun e w' => e = .returned (.bool (decide (l = l2))) ∧ ∃ m, w' = w.drewN m := by
  have HC := Lib.hid hc
  have HC2 := Lib.hid hc2
  have HN := Lib.hid hn
  have HN2 := Lib.hid hn2
  clear hc hc2 hn hn2
  go_enter Try.func12, Try.ntmps12
  go_wp2
  go_loopw [5] (fun i wr => ∃ k m : Nat, k ≤ n ∧ i = .int .i64 k ∧ wr = w.drewN m ∧ Hid (l.take k = l2.take k)) (fun i _ => n - (intOf i).toNat)
  case atStart => exact ⟨0, 0, Nat.zero_le _, rfl, rfl, Lib.hid (by simp)⟩
  case round =>
    obtain ⟨k, m, hk, rfl, rfl, HT⟩ := hrel
    by_cases hlt : k < n
    · obtain ⟨x, hx⟩ : ∃ x, l[k]? = some x := ⟨_, List.getElem?_eq_getElem (by rw [HN.out]; exact hlt)⟩
      obtain ⟨y, hy⟩ : ∃ y, l2[k]? = some y := ⟨_, List.getElem?_eq_getElem (by rw [HN2.out]; exact hlt)⟩
      have e0 : w.cell? ⟨b, o + k * 2, none⟩ = some (.int .i64 x.a) := HC.out k x hx 0 (by decide)
      have e1 : w.cell? ⟨b, o + k * 2 + 1, none⟩ = some (.int .i64 x.b) := HC.out k x hx 1 (by decide)
      have f0 : w.cell? ⟨b2, o2 + k * 2, none⟩ = some (.int .i64 y.a) := HC2.out k y hy 0 (by decide)
      have f1 : w.cell? ⟨b2, o2 + k * 2 + 1, none⟩ = some (.int .i64 y.b) := HC2.out k y hy 1 (by decide)
      have hk3 : (k : Int) < (n : Int) := by omega
      by_cases h : x = y
      · subst h
        have HT2 := Lib.hid (takes HT.out hx hy)
        clear hx hy
        go_wp2_with fail
        go_quiet (fail)
        go_wp2
        go_roundw
        case rel => exact ⟨k + 1, _, by omega, by go_num, rfl, HT2⟩
        case measure => simp [intOf]; omega
      · have HE := Lib.hid (nots hx hy h)
        have hor : x.a ≠ y.a ∨ (x.a = y.a ∧ x.b ≠ y.b) := by
          by_cases h1 : x.a = y.a
          · refine .inr ⟨h1, fun h2 => h ?_⟩
            cases x
            cases y
            simp_all
          · exact .inl h1
        clear hx hy h
        obtain ⟨xm, xs⟩ := x
        obtain ⟨ym, ys⟩ := y
        simp only at hor e0 e1 f0 f1
        rcases hor with h1 | ⟨rfl, h2⟩
        · have t1 : (xm == ym) = false := by simp [h1]
          clear h1
          go_wp2_with fail
          go_quiet (fail)
          go_wp2
          go_ret
          exact ⟨by rw [HE.out]; rfl, _, World.drewN_drewN _ _ _⟩
        · have t1 : (xs == ys) = false := by simp [h2]
          clear h2
          go_wp2_with fail
          go_quiet (fail)
          go_wp2
          go_ret
          exact ⟨by rw [HE.out]; rfl, _, World.drewN_drewN _ _ _⟩
    · obtain rfl : k = n := by omega
      have HE := Lib.hid (show decide (l = l2) = true by
        rw [decide_eq_true_eq]
        have := HT.out
        rwa [List.take_of_length_le (by rw [HN.out]; exact Nat.le_refl _), List.take_of_length_le (by rw [HN2.out]; exact Nat.le_refl _)] at this)
      go_wp2
      go_ret
      exact ⟨by rw [HE.out]; rfl, _, rfl⟩
theorem dsame_any (p q : Option Addr) (n m c d : Nat) (l l2 : List Ru) (w : World) (hn : n ≤ 9223372036854775807) (h : Rw 2 ucells w p n l) (h2 : Rw 2 ucells w q m l2) :
    Calls Try.prog 12 #[.slice p n c, .slice q m d] w fun e w' => e = .returned (.bool (decide (l = l2))) ∧ ∃ m, w' = w.drewN m := by
  by_cases hm : n = m
  · subst hm
    by_cases h0 : 0 < n
    · obtain ⟨b, o, rfl, hc⟩ := h.2 h0
      obtain ⟨b2, o2, rfl, hc2⟩ := h2.2 h0
      exact dsame_some b o b2 o2 n c d l l2 w h.1 h2.1 hn hc hc2
    · obtain rfl : n = 0 := by omega
      have e1 := List.eq_nil_of_length_eq_zero h.1
      have e2 := List.eq_nil_of_length_eq_zero h2.1
      subst e1 e2
      exact (dsame_nil p q c d w).mono fun e w' ⟨he, hw⟩ => ⟨by rw [he]; rfl, 0, hw.symm⟩
  · have e : decide (l = l2) = false := by
      rw [decide_eq_false_iff_not]
      rintro rfl
      exact hm (h.1.symm.trans h2.1)
    rw [e]
    exact (dsame_other p q n m c d w hm).mono fun e w' ⟨he, hw⟩ => ⟨he, 0, hw.symm⟩
end Dr
end Go.Proofs.Ytfdakkghikimcaa
