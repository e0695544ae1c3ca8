/- Walks over a reader of package octets. No condition but those written. -/
import Derived.Test.YtbahilakfgbgpaaDoorOb1
namespace Go.Proofs.YtbahilakfgbgpaaDoor
open Go.RowKit

namespace Ob
/-- The reader of package octets: at block g, its state: an error, or 0 and the bytes that are still to be read. -/
def PR (w : World) (g : Nat) (s : Nat × List Nat) : Prop :=
  (s.1 ≠ 0 ∧ s.2 = [] ∧ Lies w g 71 #[.slice none 0 0, .int .i64 (s.1 : Int)]) ∨ (s.1 = 0 ∧ ∃ p n c, Lies w g 71 #[.slice p n c, .int .i64 0] ∧ n ≤ c ∧ At w p n s.2)
theorem PR.plain {w : World} {g : Nat} {s : Nat × List Nat} (h : PR w g s) : Plain w (fun k => k = g) := by
  rintro k rfl
  rcases h with ⟨_, _, hb⟩ | ⟨_, p, n, c, hb, _⟩
  · exact ⟨_, _, hb, noU8_2 _ _ _ _⟩
  · exact ⟨_, _, hb, noU8_2 _ _ _ _⟩
theorem PR.lt {w : World} {g : Nat} {s : Nat × List Nat} (h : PR w g s) : g < w.heap.size := by
  rcases h with ⟨_, _, hb⟩ | ⟨_, p, n, c, hb, _⟩
  · exact hb.lt
  · exact hb.lt
theorem PR.turn {w w' : World} {g : Nat} {s : Nat × List Nat} {S : Nat → Prop} (h : PR w g s) (ht : Turn S w w') (hs : Plain w S) (hg : ¬ S g) : PR w' g s := by
  rcases h with ⟨he, hl, hb⟩ | ⟨he, p, n, c, hb, hc, hA⟩
  · exact .inl ⟨he, hl, hb.turn ht hg⟩
  · exact .inr ⟨he, p, n, c, hb.turn ht hg, hc, hA.plain ht hs⟩
/-- What a reader's call leaves. -/
def Took (w : World) (g : Nat) (s : Nat × List Nat) (w' : World) : Prop := PR w' g s ∧ Turn (fun k => k = g) w w'
theorem rworks_nil (w : World) : Calls Tryd.prog 47 #[.pointer none] w fun e w' => e = .returned (.bool false) ∧ w = w' := by
  go_enter Tryd.func47, Tryd.ntmps47
  go_wp2
  go_ret
  exact ⟨rfl, rfl⟩
theorem rworks_yes (g : Nat) (v : Value) (w : World) (h : Lies w g 71 #[v, .int .i64 0]) :
    Calls Tryd.prog 47 #[.pointer (some ⟨g, 0, none⟩)] w fun e w' => e = .returned (.bool true) ∧ w = w' := by
  have c1 : w.cell? ⟨g, 1, none⟩ = some (.int .i64 0) := h.cell 1
  clear h
  go_enter Tryd.func47, Tryd.ntmps47
  go_wp2
  go_ret
  exact ⟨rfl, rfl⟩
theorem rworks_no (g : Nat) (v : Value) (u : Nat) (hu : u ≠ 0) (w : World) (h : Lies w g 71 #[v, .int .i64 (u : Int)]) :
    Calls Tryd.prog 47 #[.pointer (some ⟨g, 0, none⟩)] w fun e w' => e = .returned (.bool false) ∧ w = w' := by
  have c1 : w.cell? ⟨g, 1, none⟩ = some (.int .i64 (u : Int)) := h.cell 1
  have t1 : ((u : Int) == 0) = false := by simp; omega
  clear h hu
  go_enter Tryd.func47, Tryd.ntmps47
  go_wp2
  go_ret
  exact ⟨rfl, rfl⟩
theorem took_fail {w : World} {g : Nat} {v u : Value} (h : Lies w g 71 #[v, u]) (n : Nat) (hn : n ≠ 0) : Took w g (n, []) ((w.setCell ⟨g, 0, none⟩ (.slice none 0 0)).setCell ⟨g, 1, none⟩ (.int .i64 (n : Int))) := by
  refine ⟨.inl ⟨hn, rfl, ?_⟩, ((Turn.refl (fun k => k = g) w).setCell (p := ⟨g, 0, none⟩) (.inl rfl) _).setCell (p := ⟨g, 1, none⟩) (.inl rfl) _⟩
  have := (h.set_ 0 (.slice none 0 0)).set_ 1 (.int .i64 (n : Int))
  simpa using this
theorem take_no (g k n c : Nat) (p : Option Addr) (w : World) (h : Lies w g 71 #[.slice p n c, .int .i64 0]) (hk : n < k) :
    Calls Tryd.prog 48 #[.pointer (some ⟨g, 0, none⟩), .int .i64 (k : Int)] w fun e w' => e = .returned (.slice none 0 0) ∧ Took w g (2, []) w' := by
  have c0 : w.cell? ⟨g, 0, none⟩ = some (.slice p n c) := h.cell 0
  have hk' : (n : Int) < (k : Int) := by omega
  have F := Lib.hid (fail_any g 71 _ _ 2 w h)
  have T := Lib.hid (took_fail h 2 (by decide))
  clear h hk
  go_enter Tryd.func48, Tryd.ntmps48
  go_wp2_with fail
  refine F.out.mono ?_
  rintro e w' ⟨rfl, rfl⟩
  go_wp2
  go_ret
  exact ⟨rfl, T.out⟩
theorem took_cut {w : World} {g k n c : Nat} {p q : Option Addr} {l : List Nat} (h : Lies w g 71 #[.slice p n c, .int .i64 0]) (hk : k ≤ n) (hnc : n ≤ c) (hA : At w p n l) (hq : c = k ∨ q = p.map fun x => x.add k) :
    Took w g (0, l.drop k) (w.setCell ⟨g, 0, none⟩ (.slice q (n - k) (c - k))) ∧ At (w.setCell ⟨g, 0, none⟩ (.slice q (n - k) (c - k))) p k (l.take k) := by
  have ht : Turn (fun i => i = g) w (w.setCell ⟨g, 0, none⟩ (.slice q (n - k) (c - k))) := (Turn.refl (fun i => i = g) w).setCell (p := ⟨g, 0, none⟩) (.inl rfl) _
  have hP : Plain w (fun i => i = g) := by
    rintro i rfl
    exact ⟨_, _, h, noU8_2 _ _ _ _⟩
  refine ⟨⟨.inr ⟨rfl, q, n - k, c - k, by simpa using h.set_ 0 (.slice q (n - k) (c - k)), by omega, ?_⟩, ht⟩, (hA.take k hk).plain ht hP⟩
  rcases hq with rfl | rfl
  · have e : n - c = 0 := by omega
    rw [e]
    exact At.none_left (by rw [List.length_drop, hA.1]; omega)
  · exact (hA.cut hk).plain ht hP
set_option maxHeartbeats 1000000 in
theorem take_yes (g k n c : Nat) (p : Option Addr) (l : List Nat) (w : World) (h : Lies w g 71 #[.slice p n c, .int .i64 0]) (hk : k ≤ n) (hnc : n ≤ c) (hA : At w p n l) :
    Calls Tryd.prog 48 #[.pointer (some ⟨g, 0, none⟩), .int .i64 (k : Int)] w fun e w' => e = .returned (.slice p k c) ∧ Took w g (0, l.drop k) w' ∧ At w' p k (l.take k) := by
  have c0 : w.cell? ⟨g, 0, none⟩ = some (.slice p n c) := h.cell 0
  have f0 := h.frozen 0
  have hk' : (k : Int) ≤ (n : Int) := by omega
  have hk2 : (k : Int) ≤ (c : Int) := by omega
  have hc' : (n : Int) ≤ (c : Int) := by omega
  have H := Lib.hid h
  have HA := Lib.hid hA
  clear h hk hnc hA
  go_enter Tryd.func48, Tryd.ntmps48
  go_wp2
  · have T := took_cut (k := k) (n := n) (c := k) (q := p) (show Lies w g 71 #[.slice p n k, .int .i64 0] by have := H.out; simp_all) (by omega) (by omega) HA.out (.inl rfl)
    rw [Nat.sub_self] at T
    go_ret
    exact ⟨by simp_all, T⟩
  · go_ret
    exact ⟨rfl, took_cut H.out (Int.ofNat_le.1 hk') (Int.ofNat_le.1 hc') HA.out (.inr rfl)⟩
/-- Whether it is a reader with bytes. -/
def PB (w : World) (g : Nat) (p : Option Addr) (n c : Nat) (l : List Nat) : Prop := Lies w g 71 #[.slice p n c, .int .i64 0] ∧ n ≤ c ∧ At w p n l
set_option maxRecDepth 100000 in
set_option maxHeartbeats 1000000 in
theorem get_yes (g k n c : Nat) (p : Option Addr) (l : List Nat) (w : World) (h : PB w g p n c l) (h1 : 1 ≤ k) (h8 : k ≤ 8) (hk : k ≤ n) :
    Calls Tryd.prog 41 #[.pointer (some ⟨g, 0, none⟩), .int .i64 (k : Int)] w fun e w' => e = .returned (.int .u64 ((Oc.val (l.take k) : Nat) : Int)) ∧ Took w g (0, l.drop k) w' := by
  obtain ⟨hb, hnc, hA⟩ := h
  have hs : decide (1 ≤ (k : Int) ∧ (k : Int) ≤ 8) = true := by simp; omega
  have S := size_any (k : Int) w
  rw [hs] at S
  have S' := Lib.hid S
  have Y := Lib.hid (rworks_yes g _ w hb)
  have T := Lib.hid (take_yes g k n c p l w hb hk hnc hA)
  have hx : ∀ x ∈ l.take k, x < 256 := Oc.mem_take hA.2.1 k
  have hlen : (l.take k).length = k := by rw [List.length_take, hA.1]; omega
  clear hb hnc hA hs S
  generalize l.take k = L at *
  have HX := Lib.hid hx
  have HL := Lib.hid hlen
  clear hx hlen
  go_enter Tryd.func41, Tryd.ntmps41
  go_wp2_with fail
  refine Y.out.mono ?_
  rintro e w' ⟨rfl, rfl⟩
  go_wp2_with fail
  refine S'.out.mono ?_
  rintro e w' ⟨rfl, rfl⟩
  go_wp2_with fail
  refine T.out.mono ?_
  rintro e w1 ⟨rfl, ht, hA⟩
  have HT := Lib.hid ht
  have HA := Lib.hid hA
  obtain ⟨b, o, rfl, hj⟩ := hA.2.2 h1
  have HJ := Lib.hid hj
  clear ht hA hj S' Y T
  have K : Hid (∀ j, j < k → Oc.val (L.take (j + 1)) = 256 * Oc.val (L.take j) + L.getD j 0 ∧ Oc.val (L.take j) < 72057594037927936 ∧ L.getD j 0 < 256) := by
    intro j hj
    refine ⟨Oc.val_take (by rw [HL.out]; exact hj), ?_, getD_lt HX.out j⟩
    exact Nat.lt_of_lt_of_le (Oc.val_take_lt HX.out (show j ≤ 7 by omega)) (by decide)
  go_wp2
  go_loop [5, 22] (fun u i => ∃ j : Nat, j ≤ k ∧ i = .int .i64 (j : Int) ∧ u = .int .u64 ((Oc.val (L.take j) : Nat) : Int)) (fun _ i => k - (RowKit.intOf i).toNat)
  case atStart => exact ⟨0, Nat.zero_le _, rfl, rfl⟩
  case round =>
    obtain ⟨j, hj, rfl, rfl⟩ := hrel
    by_cases hlt : j < k
    · obtain ⟨k1, k2, k3⟩ := K.out j hlt
      have c1 := HJ.out j hlt
      have o1 := u64_join _ _ k2 k3
      have K1 := Lib.hid k1
      clear k1
      generalize Oc.val (L.take j) = u at *
      generalize L.getD j 0 = x at *
      go_wp2
      go_round
      case rel => exact ⟨j + 1, by omega, by go_num, by rw [K1.out]; go_num⟩
      case measure => simp [RowKit.intOf]; omega
    · obtain rfl : j = k := by omega
      have E : Hid (L.take j = L) := Lib.hid (List.take_of_length_le (by rw [HL.out]; exact Nat.le_refl _))
      go_wp2
      go_ret
      exact ⟨by rw [E.out]; rfl, HT.out⟩
theorem get_err (g : Nat) (v : Value) (u : Nat) (hu : u ≠ 0) (m : Int) (w : World) (h : Lies w g 71 #[v, .int .i64 (u : Int)]) :
    Calls Tryd.prog 41 #[.pointer (some ⟨g, 0, none⟩), .int .i64 m] w fun e w' => e = .returned (.int .u64 0) ∧ w = w' := by
  have N := Lib.hid (rworks_no g v u hu w h)
  clear h
  go_enter Tryd.func41, Tryd.ntmps41
  go_wp2_with fail
  refine N.out.mono ?_
  rintro e w' ⟨rfl, rfl⟩
  go_wp2
  go_ret
  exact ⟨rfl, rfl⟩
theorem get_nil (m : Int) (w : World) : Calls Tryd.prog 41 #[.pointer none, .int .i64 m] w fun e w' => e = .returned (.int .u64 0) ∧ w = w' := by
  go_enter Tryd.func41, Tryd.ntmps41
  go_wp2_with fail
  refine (rworks_nil w).mono ?_
  rintro e w' ⟨rfl, rfl⟩
  go_wp2
  go_ret
  exact ⟨rfl, rfl⟩
theorem get_size (g : Nat) (v : Value) (m : Int) (w : World) (h : Lies w g 71 #[v, .int .i64 0]) (hm : ¬ (1 ≤ m ∧ m ≤ 8)) :
    Calls Tryd.prog 41 #[.pointer (some ⟨g, 0, none⟩), .int .i64 m] w fun e w' => e = .returned (.int .u64 0) ∧ Took w g (1, []) w' := by
  have hs : decide (1 ≤ m ∧ m ≤ 8) = false := by simp; omega
  have S := size_any m w
  rw [hs] at S
  have S' := Lib.hid S
  have Y := Lib.hid (rworks_yes g _ w h)
  have F := Lib.hid (fail_any g 71 v _ 1 w h)
  have T := Lib.hid (took_fail h 1 (by decide))
  clear hs S h hm
  go_enter Tryd.func41, Tryd.ntmps41
  go_wp2_with fail
  refine Y.out.mono ?_
  rintro e w' ⟨rfl, rfl⟩
  go_wp2_with fail
  refine S'.out.mono ?_
  rintro e w' ⟨rfl, rfl⟩
  go_wp2_with fail
  refine F.out.mono ?_
  rintro e w' ⟨rfl, rfl⟩
  go_wp2
  go_ret
  exact ⟨rfl, T.out⟩
theorem get_short (g k n c : Nat) (p : Option Addr) (l : List Nat) (w : World) (h : PB w g p n c l) (h1 : 1 ≤ k) (h8 : k ≤ 8) (hk : n < k) :
    Calls Tryd.prog 41 #[.pointer (some ⟨g, 0, none⟩), .int .i64 (k : Int)] w fun e w' => e = .returned (.int .u64 0) ∧ Took w g (2, []) w' := by
  obtain ⟨hb, hnc, hA⟩ := h
  have hs : decide (1 ≤ (k : Int) ∧ (k : Int) ≤ 8) = true := by simp; omega
  have S := size_any (k : Int) w
  rw [hs] at S
  have S' := Lib.hid S
  have Y := Lib.hid (rworks_yes g _ w hb)
  have T := Lib.hid (take_no g k n c p w hb hk)
  clear hb hnc hA hs S
  go_enter Tryd.func41, Tryd.ntmps41
  go_wp2_with fail
  refine Y.out.mono ?_
  rintro e w' ⟨rfl, rfl⟩
  go_wp2_with fail
  refine S'.out.mono ?_
  rintro e w' ⟨rfl, rfl⟩
  go_wp2_with fail
  refine T.out.mono ?_
  rintro e w1 ⟨rfl, ht⟩
  have HT := Lib.hid ht
  clear ht S' Y T
  go_wp2
  go_loop [5, 22] (fun u i => i = .int .i64 0 ∧ u = .int .u64 0) (fun _ _ => 0)
  case atStart => exact ⟨rfl, rfl⟩
  case round =>
    obtain ⟨rfl, rfl⟩ := hrel
    go_wp2
    go_ret
    exact ⟨rfl, HT.out⟩
theorem took_refl {w : World} {g : Nat} {s : Nat × List Nat} (h : PR w g s) : Took w g s w := ⟨h, Turn.refl _ _⟩
/-- Num of a reader. -/
theorem get_any (g : Nat) (s : Nat × List Nat) (m : Int) (w : World) (h : PR w g s) :
    Calls Tryd.prog 41 #[.pointer (some ⟨g, 0, none⟩), .int .i64 m] w fun e w' => e = .returned (.int .u64 (((Oc.rnum s m).1 : Nat) : Int)) ∧ Took w g (Oc.rnum s m).2 w' := by
  rcases h with ⟨he, hl, hb⟩ | ⟨he, p, n, c, hb, hnc, hA⟩
  · have e : Oc.rnum s m = (0, s) := by simp [Oc.rnum, he]
    rw [e]
    exact (get_err g _ s.1 he m w hb).mono fun e w' ⟨he', hw⟩ => ⟨he', hw ▸ took_refl (.inl ⟨he, hl, hb⟩)⟩
  · have hlen := hA.1
    by_cases hm : 1 ≤ m ∧ m ≤ 8
    · obtain ⟨k, rfl⟩ : ∃ k : Nat, m = k := ⟨m.toNat, by omega⟩
      by_cases hk : k ≤ n
      · have e : Oc.rnum s k = (Oc.val (s.2.take k), (0, s.2.drop k)) := by
          unfold Oc.rnum
          rw [if_neg (by omega), if_neg (by omega), if_neg (by omega)]
          rfl
        rw [e]
        exact get_yes g k n c p s.2 w ⟨hb, hnc, hA⟩ (by omega) (by omega) hk
      · have e : Oc.rnum s k = (0, (2, [])) := by
          unfold Oc.rnum
          rw [if_neg (by omega), if_neg (by omega), if_pos (by omega)]
        rw [e]
        exact get_short g k n c p s.2 w ⟨hb, hnc, hA⟩ (by omega) (by omega) (by omega)
    · have e : Oc.rnum s m = (0, (1, [])) := by
        unfold Oc.rnum
        rw [if_neg (by omega), if_pos hm]
      rw [e]
      exact get_size g _ m w hb hm
theorem took_trans {w w1 w2 : World} {g : Nat} {s : Nat × List Nat} (ht : Turn (fun k => k = g) w w1) (h : Took w1 g s w2) : Took w g s w2 := ⟨h.1, ht.trans h.2 (fun _ hi => .inl hi)⟩
theorem gint_any (g : Nat) (s : Nat × List Nat) (w : World) (h : PR w g s) :
    Calls Tryd.prog 42 #[.pointer (some ⟨g, 0, none⟩)] w fun e w' => e = .returned (.int .i64 (wrap64 (((Oc.rnum s 8).1 : Nat) : Int))) ∧ Took w g (Oc.rnum s 8).2 w' := by
  have N := Lib.hid (get_any g s 8 w h)
  clear h
  generalize Oc.rnum s 8 = r at *
  go_enter Tryd.func42, Tryd.ntmps42
  go_wp2_with fail
  refine N.out.mono ?_
  rintro e w' ⟨rfl, ht⟩
  have HT := Lib.hid ht
  clear ht
  go_wp2
  go_ret
  exact ⟨rfl, HT.out⟩
theorem PR.lt256 {w : World} {g : Nat} {s : Nat × List Nat} (h : PR w g s) : ∀ x ∈ s.2, x < 256 := by
  rcases h with ⟨_, hl, _⟩ | ⟨_, p, n, c, _, _, hA⟩
  · rw [hl]
    simp
  · exact hA.2.1
theorem pr_fail {w : World} {g : Nat} {s : Nat × List Nat} (h : PR w g s) (n : Nat) (hn : n ≠ 0) :
    ∃ v u, Lies w g 71 #[v, u] ∧ Took w g (n, []) ((w.setCell ⟨g, 0, none⟩ (.slice none 0 0)).setCell ⟨g, 1, none⟩ (.int .i64 (n : Int))) := by
  rcases h with ⟨_, _, hb⟩ | ⟨_, p, k, c, hb, _⟩
  · exact ⟨_, _, hb, took_fail hb n hn⟩
  · exact ⟨_, _, hb, took_fail hb n hn⟩
set_option maxHeartbeats 1000000 in
theorem grun_any (g : Nat) (s : Nat × List Nat) (w : World) (h : PR w g s) (hl : s.2.length ≤ 1000000) :
    Calls Tryd.prog 43 #[.pointer (some ⟨g, 0, none⟩)] w fun e w' => ∃ v, e = .returned v ∧ Out w' v (Oc.rrun s).1 ∧ Took w g (Oc.rrun s).2 w' := by
  have N := Lib.hid (get_any g s 4 w h)
  have L := Oc.rnum_lt h.lt256 4 4 rfl
  have LL := Nat.le_trans (Oc.rnum_len s 4) hl
  have E : Oc.rrun s = if (Oc.rnum s 4).2.1 ≠ 0 then ([], (Oc.rnum s 4).2) else if (Oc.rnum s 4).2.2.length < (Oc.rnum s 4).1 then ([], (2, [])) else ((Oc.rnum s 4).2.2.take (Oc.rnum s 4).1, (0, (Oc.rnum s 4).2.2.drop (Oc.rnum s 4).1)) := rfl
  have H1 := Lib.hid E
  clear h E hl
  generalize Oc.rrun s = z at *
  generalize Oc.rnum s 4 = r at *
  obtain ⟨u, t⟩ := r
  simp only at L LL H1
  have hu : (u : Int) < 4294967296 := by omega
  clear L
  go_enter Tryd.func43, Tryd.ntmps43
  go_wp2_with fail
  refine N.out.mono ?_
  rintro e w1 ⟨rfl, hp, ht⟩
  have HT := Lib.hid ht
  have HP := Lib.hid hp
  rcases hp with ⟨he, hl, hb⟩ | ⟨he, p, n, c, hb, hnc, hA⟩
  · have Y := Lib.hid (rworks_no g _ _ he w1 hb)
    have Z := Lib.hid he
    clear he hl hb ht
    go_wp2_with fail
    refine Y.out.mono ?_
    rintro e w' ⟨rfl, rfl⟩
    go_wp2
    go_ret
    refine ⟨_, rfl, ?_⟩
    rw [H1.out, if_pos Z.out]
    exact ⟨out_nil _, HP.out, HT.out⟩
  · have Y := Lib.hid (rworks_yes g _ w1 hb)
    have Z := Lib.hid he
    have hn : n ≤ 1000000 := by rw [← hA.1]; exact LL
    have hn2 := hA.1
    by_cases hk : u ≤ n
    · have T := Lib.hid (take_yes g u n c p t.2 w1 hb hk hnc hA)
      have hc := hnc
      clear he hb ht hA hnc
      go_wp2_with fail
      refine Y.out.mono ?_
      rintro e w' ⟨rfl, rfl⟩
      go_wp2_with fail
      refine T.out.mono ?_
      rintro e w2 ⟨rfl, ht2, hA2⟩
      have C := Lib.hid (clone_any p u c _ w2 (by omega) hA2)
      have HT2 := Lib.hid ht2
      clear ht2 hA2
      go_wp2_with fail
      refine C.out.mono ?_
      rintro e w3 ⟨q, d, rfl, hd, hA3, hb3⟩
      have H3 := Lib.hid hA3
      have HB3 := Lib.hid hb3
      have HL : Hid ((t.2.take u).length = u) := Lib.hid (by rw [List.length_take]; omega)
      clear hA3 hb3 hn2
      go_wp2
      go_ret
      refine ⟨_, rfl, ?_⟩
      have e1 : z = (t.2.take u, (0, t.2.drop u)) := by
        rw [H1.out, if_neg (by rw [Z.out]; simp), if_neg ?_]
        have := HL.out
        rw [List.length_take] at this
        omega
      rw [e1]
      refine ⟨⟨q, d, by rw [HL.out]; rfl, by rw [HL.out]; exact hd, by rw [HL.out]; exact H3.out⟩, HT2.out.1.turn (S := fun _ => False) (Turn.of_below HB3.out) (fun k hk => False.elim hk) (fun hk => hk), ?_⟩
      exact HT.out.trans (HT2.out.2.trans (Turn.of_below (S := fun k => k = g) HB3.out) (fun i hi => .inl hi)) (fun i hi => .inl hi)
    · have T := Lib.hid (take_no g u n c p w1 hb (by omega))
      have HK : Hid (t.2.length < u) := Lib.hid (by omega)
      have C := Lib.hid (fun W => clone_any none 0 0 [] W (by decide) (at_nil W))
      clear he hb ht hA hnc hn2
      go_wp2_with fail
      refine Y.out.mono ?_
      rintro e w' ⟨rfl, rfl⟩
      go_wp2_with fail
      refine T.out.mono ?_
      rintro e w2 ⟨rfl, ht2⟩
      have HT2 := Lib.hid ht2
      clear ht2
      go_wp2_with fail
      refine (C.out w2).mono ?_
      rintro e w3 ⟨q, d, rfl, hd, hA3, hb3⟩
      have H3 := Lib.hid hA3
      have HB3 := Lib.hid hb3
      clear hA3 hb3
      go_wp2
      go_ret
      refine ⟨_, rfl, ?_⟩
      rw [H1.out, if_neg (by rw [Z.out]; simp), if_pos HK.out]
      refine ⟨⟨q, d, rfl, hd, H3.out⟩, HT2.out.1.turn (S := fun _ => False) (Turn.of_below HB3.out) (fun k hk => False.elim hk) (fun hk => hk), ?_⟩
      exact HT.out.trans (HT2.out.2.trans (Turn.of_below (S := fun k => k = g) HB3.out) (fun i hi => .inl hi)) (fun i hi => .inl hi)
theorem left_at (g : Nat) (p : Option Addr) (n c : Nat) (u : Value) (w : World) (h : Lies w g 71 #[.slice p n c, u]) :
    Calls Tryd.prog 44 #[.pointer (some ⟨g, 0, none⟩)] w fun e w' => e = .returned (.int .i64 (n : Int)) ∧ w = w' := by
  have c0 : w.cell? ⟨g, 0, none⟩ = some (.slice p n c) := h.cell 0
  clear h
  go_enter Tryd.func44, Tryd.ntmps44
  go_wp2
  go_ret
  exact ⟨rfl, rfl⟩
theorem left_any (g : Nat) (s : Nat × List Nat) (w : World) (h : PR w g s) :
    Calls Tryd.prog 44 #[.pointer (some ⟨g, 0, none⟩)] w fun e w' => e = .returned (.int .i64 ((s.2.length : Nat) : Int)) ∧ w = w' := by
  rcases h with ⟨he, hl, hb⟩ | ⟨he, p, n, c, hb, hnc, hA⟩
  · rw [hl]
    exact left_at g none 0 0 _ w hb
  · rw [hA.1]
    exact left_at g p n c _ w hb
set_option maxHeartbeats 1000000 in
theorem end_any (g : Nat) (s : Nat × List Nat) (w : World) (h : PR w g s) :
    Calls Tryd.prog 29 #[.pointer (some ⟨g, 0, none⟩)] w fun e w' => e = .returned (.int .i64 ((Oc.rdone s : Nat) : Int)) ∧ w = w' := by
  have N := Lib.hid (left_any g s w h)
  have E : Hid (Oc.rdone s = if 0 < s.2.length then 2 else s.1) := Lib.hid rfl
  have C : ∃ v, Lies w g 71 #[v, .int .i64 (s.1 : Int)] := by
    rcases h with ⟨he, hl, hb⟩ | ⟨he, p, n, c, hb, hnc, hA⟩
    · exact ⟨_, hb⟩
    · rw [he]
      exact ⟨_, hb⟩
  obtain ⟨v, hb⟩ := C
  have c1 : w.cell? ⟨g, 1, none⟩ = some (.int .i64 (s.1 : Int)) := hb.cell 1
  clear h hb
  generalize s.2.length = n at *
  generalize s.1 = u at *
  by_cases hn : 0 < n
  · have hn' : (0 : Int) < (n : Int) := by omega
    go_enter Tryd.func29, Tryd.ntmps29
    go_wp2_with fail
    refine N.out.mono ?_
    rintro e w' ⟨rfl, rfl⟩
    go_wp2
    go_ret
    exact ⟨by rw [E.out, if_pos hn]; rfl, rfl⟩
  · obtain rfl : n = 0 := by omega
    go_enter Tryd.func29, Tryd.ntmps29
    go_wp2_with fail
    refine N.out.mono ?_
    rintro e w' ⟨rfl, rfl⟩
    go_wp2
    go_ret
    exact ⟨by rw [E.out, if_neg hn]; rfl, rfl⟩
set_option maxHeartbeats 1000000 in
theorem newr_any (p : Option Addr) (n c : Nat) (l : List Nat) (w : World) (hn : n ≤ 1000000) (hA : At w p n l) :
    Calls Tryd.prog 27 #[.slice p n c] w fun e w' => ∃ g, e = .returned (.pointer (some ⟨g, 0, none⟩)) ∧ w.heap.size ≤ g ∧ PR w' g (0, l) ∧ Below w.heap.size w w' := by
  have C := Lib.hid (clone_any p n c l w hn hA)
  clear hA
  go_enter Tryd.func27, Tryd.ntmps27
  go_wp2_with fail
  refine C.out.mono ?_
  rintro e w1 ⟨q, d, rfl, hd, hA1, hb1⟩
  have HB := Lib.hid hb1
  have HA := Lib.hid hA1
  have hz := hb1.size
  clear hA1 hb1
  go_wp2
  go_ret
  refine ⟨w1.heap.size, rfl, hz, .inr ⟨rfl, q, n, d, Lies.new w1 71 _, hd, ?_⟩, HB.out.alloc hz _⟩
  exact HA.out.keep ((Below.refl _ w1).alloc (Nat.le_refl _) _)
theorem nil_int (w : World) : Calls Tryd.prog 42 #[.pointer none] w fun e w' => e = .returned (.int .i64 0) ∧ w = w' := by
  go_enter Tryd.func42, Tryd.ntmps42
  go_wp2_with fail
  refine (get_nil _ w).mono ?_
  rintro e w' ⟨rfl, rfl⟩
  go_wp2
  go_ret
  exact ⟨rfl, rfl⟩
theorem nil_get_run (w : World) : Calls Tryd.prog 43 #[.pointer none] w fun e w' => e = .returned (.slice none 0 0) ∧ w = w' := by
  go_enter Tryd.func43, Tryd.ntmps43
  go_wp2_with fail
  refine (get_nil _ w).mono ?_
  rintro e w' ⟨rfl, rfl⟩
  go_wp2_with fail
  refine (rworks_nil w).mono ?_
  rintro e w' ⟨rfl, rfl⟩
  go_wp2
  go_ret
  exact ⟨rfl, rfl⟩
theorem nil_left (w : World) : Calls Tryd.prog 44 #[.pointer none] w fun e w' => e = .returned (.int .i64 0) ∧ w = w' := by
  go_enter Tryd.func44, Tryd.ntmps44
  go_wp2
  go_ret
  exact ⟨rfl, rfl⟩
theorem nil_end (w : World) : Calls Tryd.prog 29 #[.pointer none] w fun e w' => e = .returned (.int .i64 1) ∧ w = w' := by
  go_enter Tryd.func29, Tryd.ntmps29
  go_wp2
  go_ret
  exact ⟨rfl, rfl⟩
theorem PR.below {w w' : World} {g : Nat} {s : Nat × List Nat} (h : PR w g s) (hb : Below w.heap.size w w') : PR w' g s := h.turn (S := fun _ => False) (Turn.of_below hb) (fun _ hk => False.elim hk) (fun hf => hf)
/-- At the end: a writer's bytes at its end, without the writer. -/
theorem took_below {w wi w' : World} {g : Nat} {s : Nat × List Nat} (hb : Below w.heap.size w wi) (hg : w.heap.size ≤ g) (h : Took wi g s w') : PR w' g s ∧ Below w.heap.size w w' :=
  ⟨h.1, h.2.below hb hb.size (fun i hi => by rw [hi]; exact hg)⟩
end Ob
end Go.Proofs.YtbahilakfgbgpaaDoor
