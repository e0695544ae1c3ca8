/- Walks over what a reader reads, in package octets. -/
import Derived.Test.YtakkkdmbghdhgaaW5
namespace Go.Proofs.Ytakkkdmbghdhgaa
open Go.RowKit

/-- Whether it is a reader with bytes. -/
def PB (w : World) (g : Nat) (p : Option Addr) (n c : Nat) (l : List Nat) : Prop := Lies w g 61 #[.slice p n c, .int .i64 0] ∧ n ≤ c ∧ At w p n l

theorem u64_join (u x : Nat) (hu : u < 72057594037927936) (hx : x < 256) : bits .or .u64 ((u : Int) * 256) (x : Int) = ((256 * u + x : Nat) : Int) := by
  rw [show (u : Int) * 256 = ((256 * u : Nat) : Int) by omega, u64_or_nat _ _ (by omega) (by omega), nat_join 8 _ _ (by omega) (by omega)]
set_option maxRecDepth 100000 in
set_option maxHeartbeats 1000000 in
theorem get_yes (g k n c : Nat) (p : Option Addr) (l : List Nat) (w : World) (h : PB w g p n c l) (h1 : 1 ≤ k) (h8 : k ≤ 8) (hk : k ≤ n) :
    Calls Try.prog 20 #[.pointer (some ⟨g, 0, none⟩), .int .i64 (k : Int)] w fun e w' => e = .returned (.int .u64 ((Oc.val (l.take k) : Nat) : Int)) ∧ Took w g (0, l.drop k) w' := by
  obtain ⟨hb, hnc, hA⟩ := h
  have hs : decide (1 ≤ (k : Int) ∧ (k : Int) ≤ 8) = true := by simp; omega
  have S := size_any (k : Int) w
  rw [hs] at S
  have S' := Lib.hid S
  have Y := Lib.hid (rworks_yes g _ w hb)
  have T := Lib.hid (take_yes g k n c p l w hb hk hnc hA)
  have hx : ∀ x ∈ l.take k, x < 256 := Oc.mem_take hA.2.1 k
  have hlen : (l.take k).length = k := by rw [List.length_take, hA.1]; omega
  clear hb hnc hA hs S
  generalize l.take k = L at *
  have HX := Lib.hid hx
  have HL := Lib.hid hlen
  clear hx hlen
  go_enter Try.func20, Try.ntmps20
  go_wp2_with fail
  refine Y.out.mono ?_
  rintro e w' ⟨rfl, rfl⟩
  go_wp2_with fail
  refine S'.out.mono ?_
  rintro e w' ⟨rfl, rfl⟩
  go_wp2_with fail
  refine T.out.mono ?_
  rintro e w1 ⟨rfl, ht, hA⟩
  have HT := Lib.hid ht
  have HA := Lib.hid hA
  obtain ⟨b, o, rfl, hj⟩ := hA.2.2 h1
  have HJ := Lib.hid hj
  clear ht hA hj S' Y T
  have K : Hid (∀ j, j < k → Oc.val (L.take (j + 1)) = 256 * Oc.val (L.take j) + L.getD j 0 ∧ Oc.val (L.take j) < 72057594037927936 ∧ L.getD j 0 < 256) := by
    intro j hj
    refine ⟨Oc.val_take (by rw [HL.out]; exact hj), ?_, getD_lt HX.out j⟩
    exact Nat.lt_of_lt_of_le (Oc.val_take_lt HX.out (show j ≤ 7 by omega)) (by decide)
  go_wp2
  go_loop [5, 22] (fun u i => ∃ j : Nat, j ≤ k ∧ i = .int .i64 (j : Int) ∧ u = .int .u64 ((Oc.val (L.take j) : Nat) : Int)) (fun _ i => k - (intOf i).toNat)
  case atStart => exact ⟨0, Nat.zero_le _, rfl, rfl⟩
  case round =>
    obtain ⟨j, hj, rfl, rfl⟩ := hrel
    by_cases hlt : j < k
    · obtain ⟨k1, k2, k3⟩ := K.out j hlt
      have c1 := HJ.out j hlt
      have o1 := u64_join _ _ k2 k3
      have K1 := Lib.hid k1
      clear k1
      generalize Oc.val (L.take j) = u at *
      generalize L.getD j 0 = x at *
      go_wp2
      go_round
      case rel => exact ⟨j + 1, by omega, by go_num, by rw [K1.out]; go_num⟩
      case measure => simp [intOf]; omega
    · obtain rfl : j = k := by omega
      have E : Hid (L.take j = L) := Lib.hid (List.take_of_length_le (by rw [HL.out]; exact Nat.le_refl _))
      go_wp2
      go_ret
      exact ⟨by rw [E.out]; rfl, HT.out⟩
theorem get_err (g : Nat) (v : Value) (u : Nat) (hu : u ≠ 0) (m : Int) (w : World) (h : Lies w g 61 #[v, .int .i64 (u : Int)]) :
    Calls Try.prog 20 #[.pointer (some ⟨g, 0, none⟩), .int .i64 m] w fun e w' => e = .returned (.int .u64 0) ∧ w = w' := by
  have N := Lib.hid (rworks_no g v u hu w h)
  clear h
  go_enter Try.func20, Try.ntmps20
  go_wp2_with fail
  refine N.out.mono ?_
  rintro e w' ⟨rfl, rfl⟩
  go_wp2
  go_ret
  exact ⟨rfl, rfl⟩
theorem get_nil (m : Int) (w : World) : Calls Try.prog 20 #[.pointer none, .int .i64 m] w fun e w' => e = .returned (.int .u64 0) ∧ w = w' := by
  go_enter Try.func20, Try.ntmps20
  go_wp2_with fail
  refine (rworks_nil w).mono ?_
  rintro e w' ⟨rfl, rfl⟩
  go_wp2
  go_ret
  exact ⟨rfl, rfl⟩
theorem get_size (g : Nat) (v : Value) (m : Int) (w : World) (h : Lies w g 61 #[v, .int .i64 0]) (hm : ¬ (1 ≤ m ∧ m ≤ 8)) :
    Calls Try.prog 20 #[.pointer (some ⟨g, 0, none⟩), .int .i64 m] w fun e w' => e = .returned (.int .u64 0) ∧ Took w g (1, []) w' := by
  have hs : decide (1 ≤ m ∧ m ≤ 8) = false := by simp; omega
  have S := size_any m w
  rw [hs] at S
  have S' := Lib.hid S
  have Y := Lib.hid (rworks_yes g _ w h)
  have F := Lib.hid (fail_any g 61 v _ 1 w h)
  have T := Lib.hid (took_fail h 1 (by decide))
  clear hs S h hm
  go_enter Try.func20, Try.ntmps20
  go_wp2_with fail
  refine Y.out.mono ?_
  rintro e w' ⟨rfl, rfl⟩
  go_wp2_with fail
  refine S'.out.mono ?_
  rintro e w' ⟨rfl, rfl⟩
  go_wp2_with fail
  refine F.out.mono ?_
  rintro e w' ⟨rfl, rfl⟩
  go_wp2
  go_ret
  exact ⟨rfl, T.out⟩
theorem get_short (g k n c : Nat) (p : Option Addr) (l : List Nat) (w : World) (h : PB w g p n c l) (h1 : 1 ≤ k) (h8 : k ≤ 8) (hk : n < k) :
    Calls Try.prog 20 #[.pointer (some ⟨g, 0, none⟩), .int .i64 (k : Int)] w fun e w' => e = .returned (.int .u64 0) ∧ Took w g (2, []) w' := by
  obtain ⟨hb, hnc, hA⟩ := h
  have hs : decide (1 ≤ (k : Int) ∧ (k : Int) ≤ 8) = true := by simp; omega
  have S := size_any (k : Int) w
  rw [hs] at S
  have S' := Lib.hid S
  have Y := Lib.hid (rworks_yes g _ w hb)
  have T := Lib.hid (take_no g k n c p w hb hk)
  clear hb hnc hA hs S
  go_enter Try.func20, Try.ntmps20
  go_wp2_with fail
  refine Y.out.mono ?_
  rintro e w' ⟨rfl, rfl⟩
  go_wp2_with fail
  refine S'.out.mono ?_
  rintro e w' ⟨rfl, rfl⟩
  go_wp2_with fail
  refine T.out.mono ?_
  rintro e w1 ⟨rfl, ht⟩
  have HT := Lib.hid ht
  clear ht S' Y T
  go_wp2
  go_loop [5, 22] (fun u i => i = .int .i64 0 ∧ u = .int .u64 0) (fun _ _ => 0)
  case atStart => exact ⟨rfl, rfl⟩
  case round =>
    obtain ⟨rfl, rfl⟩ := hrel
    go_wp2
    go_ret
    exact ⟨rfl, HT.out⟩
theorem took_refl {w : World} {g : Nat} {s : Nat × List Nat} (h : PR w g s) : Took w g s w := ⟨h, Turn.refl _ _⟩
/-- Num of a reader. -/
theorem get_any (g : Nat) (s : Nat × List Nat) (m : Int) (w : World) (h : PR w g s) :
    Calls Try.prog 20 #[.pointer (some ⟨g, 0, none⟩), .int .i64 m] w fun e w' => e = .returned (.int .u64 (((Oc.rnum s m).1 : Nat) : Int)) ∧ Took w g (Oc.rnum s m).2 w' := by
  rcases h with ⟨he, hl, hb⟩ | ⟨he, p, n, c, hb, hnc, hA⟩
  · have e : Oc.rnum s m = (0, s) := by simp [Oc.rnum, he]
    rw [e]
    exact (get_err g _ s.1 he m w hb).mono fun e w' ⟨he', hw⟩ => ⟨he', hw ▸ took_refl (.inl ⟨he, hl, hb⟩)⟩
  · have hlen := hA.1
    by_cases hm : 1 ≤ m ∧ m ≤ 8
    · obtain ⟨k, rfl⟩ : ∃ k : Nat, m = k := ⟨m.toNat, by omega⟩
      by_cases hk : k ≤ n
      · have e : Oc.rnum s k = (Oc.val (s.2.take k), (0, s.2.drop k)) := by
          unfold Oc.rnum
          rw [if_neg (by omega), if_neg (by omega), if_neg (by omega)]
          rfl
        rw [e]
        exact get_yes g k n c p s.2 w ⟨hb, hnc, hA⟩ (by omega) (by omega) hk
      · have e : Oc.rnum s k = (0, (2, [])) := by
          unfold Oc.rnum
          rw [if_neg (by omega), if_neg (by omega), if_pos (by omega)]
        rw [e]
        exact get_short g k n c p s.2 w ⟨hb, hnc, hA⟩ (by omega) (by omega) (by omega)
    · have e : Oc.rnum s m = (0, (1, [])) := by
        unfold Oc.rnum
        rw [if_neg (by omega), if_pos hm]
      rw [e]
      exact get_size g _ m w hb hm
theorem took_trans {w w1 w2 : World} {g : Nat} {s : Nat × List Nat} (ht : Turn (fun k => k = g) w w1) (h : Took w1 g s w2) : Took w g s w2 := ⟨h.1, ht.trans h.2 (fun _ hi => .inl hi)⟩
theorem gint_any (g : Nat) (s : Nat × List Nat) (w : World) (h : PR w g s) :
    Calls Try.prog 22 #[.pointer (some ⟨g, 0, none⟩)] w fun e w' => e = .returned (.int .i64 (wrap64 (((Oc.rnum s 8).1 : Nat) : Int))) ∧ Took w g (Oc.rnum s 8).2 w' := by
  have N := Lib.hid (get_any g s 8 w h)
  clear h
  generalize Oc.rnum s 8 = r at *
  go_enter Try.func22, Try.ntmps22
  go_wp2_with fail
  refine N.out.mono ?_
  rintro e w' ⟨rfl, ht⟩
  have HT := Lib.hid ht
  clear ht
  go_wp2
  go_ret
  exact ⟨rfl, HT.out⟩
end Go.Proofs.Ytakkkdmbghdhgaa
