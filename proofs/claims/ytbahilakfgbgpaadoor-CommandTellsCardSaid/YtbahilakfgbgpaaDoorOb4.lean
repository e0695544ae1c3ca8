/- Walks over the document's reader of layer 4 (hoarfrostref04). No condition but those written. -/
import Derived.Test.YtbahilakfgbgpaaDoorOb3
namespace Go.Proofs.YtbahilakfgbgpaaDoor
open Go.RowKit

namespace Ob
/-- The document's reader: at block g, its state. -/
def RR (w : World) (g : Nat) (s : Nat × List Nat) : Prop :=
  ∃ p n c a B, Lies w g 57 #[.slice p n c, .int .i64 ((a : Nat) : Int), .int .i64 (s.1 : Int)] ∧ n ≤ c ∧ n ≤ 1000000 ∧ a ≤ n ∧ At w p n B ∧ (s.1 = 0 → s.2 = B.drop a) ∧ (s.1 ≠ 0 → s.2 = [])
theorem RR.plain {w : World} {g : Nat} {s : Nat × List Nat} (h : RR w g s) : Plain w (fun k => k = g) := by
  rintro k rfl
  obtain ⟨p, n, c, a, B, hb, _⟩ := h
  exact ⟨_, _, hb, noU8_3 _ _ _ _ _⟩
theorem RR.cell2 {w : World} {g : Nat} {s : Nat × List Nat} (h : RR w g s) : w.cell? ⟨g, 2, none⟩ = some (.int .i64 (s.1 : Int)) := by
  obtain ⟨p, n, c, a, B, hb, _⟩ := h
  exact hb.cell 2
theorem RR.frozen2 {w : World} {g : Nat} {s : Nat × List Nat} (h : RR w g s) : w.frozen? ⟨g, 2, none⟩ = false := by
  obtain ⟨p, n, c, a, B, hb, _⟩ := h
  exact hb.frozen 2
theorem RR.lt {w : World} {g : Nat} {s : Nat × List Nat} (h : RR w g s) : g < w.heap.size := by
  obtain ⟨p, n, c, a, B, hb, _⟩ := h
  exact hb.lt
theorem RR.turn {w w' : World} {g : Nat} {s : Nat × List Nat} {S : Nat → Prop} (h : RR w g s) (ht : Turn S w w') (hs : Plain w S) (hg : ¬ S g) : RR w' g s := by
  obtain ⟨p, n, c, a, B, hb, h1, h2, h3, hA, h4⟩ := h
  exact ⟨p, n, c, a, B, hb.turn ht hg, h1, h2, h3, hA.plain ht hs, h4⟩
def RTook (w : World) (g : Nat) (s : Nat × List Nat) (w' : World) : Prop := RR w' g s ∧ Turn (fun k => k = g) w w'
theorem rtook_refl {w : World} {g : Nat} {s : Nat × List Nat} (h : RR w g s) : RTook w g s w := ⟨h, Turn.refl _ _⟩
theorem rtook_trans {w w1 w2 : World} {g : Nat} {s : Nat × List Nat} (ht : Turn (fun k => k = g) w w1) (h : RTook w1 g s w2) : RTook w g s w2 := ⟨h.1, ht.trans h.2 (fun _ hi => .inl hi)⟩
theorem rtook_fail {w : World} {g : Nat} {s : Nat × List Nat} (h : RR w g s) (e : Nat) (he : e ≠ 0) : RTook w g (e, []) (w.setCell ⟨g, 2, none⟩ (.int .i64 (e : Int))) := by
  have hP := h.plain
  obtain ⟨p, n, c, a, B, hb, h1, h2, h3, hA, h4⟩ := h
  have ht : Turn (fun i => i = g) w (w.setCell ⟨g, 2, none⟩ (.int .i64 (e : Int))) := (Turn.refl (fun i => i = g) w).setCell (p := ⟨g, 2, none⟩) (.inl rfl) _
  exact ⟨⟨p, n, c, a, B, by simpa using hb.set_ 2 (.int .i64 (e : Int)), h1, h2, h3, hA.plain ht hP, fun h0 => absurd h0 he, fun _ => rfl⟩, ht⟩
set_option maxHeartbeats 1000000 in
theorem value_any (p : Option Addr) (n c : Nat) (l : List Nat) (w : World) (h8 : n ≤ 8) (hA : At w p n l) :
    Calls Tryd.prog 49 #[.slice p n c] w fun e w' => e = .returned (.int .u64 ((Oc.val l : Nat) : Int)) ∧ w = w' := by
  have HA := Lib.hid hA
  have K : Hid (∀ j, j < n → Oc.val (l.take (j + 1)) = 256 * Oc.val (l.take j) + l.getD j 0 ∧ Oc.val (l.take j) < 72057594037927936 ∧ l.getD j 0 < 256) := by
    refine Lib.hid fun j hj => ⟨Oc.val_take (by rw [hA.1]; exact hj), ?_, getD_lt hA.2.1 j⟩
    exact Nat.lt_of_lt_of_le (Oc.val_take_lt hA.2.1 (show j ≤ 7 by omega)) (by decide)
  clear hA
  go_enter Tryd.func49, Tryd.ntmps49
  go_wp2
  go_loop [3, 4] (fun u i => ∃ j : Nat, j ≤ n ∧ i = .int .i64 (j : Int) ∧ u = .int .u64 ((Oc.val (l.take j) : Nat) : Int)) (fun _ i => n - (RowKit.intOf i).toNat)
  case atStart => exact ⟨0, Nat.zero_le _, rfl, rfl⟩
  case round =>
    obtain ⟨j, hj, rfl, rfl⟩ := hrel
    by_cases hlt : j < n
    · obtain ⟨k1, k2, k3⟩ := K.out j hlt
      obtain ⟨b, o, rfl, hc⟩ := HA.out.2.2 (by omega)
      have c1 := hc j hlt
      have K1 := Lib.hid k1
      have k2' : ((Oc.val (l.take j) : Nat) : Int) < 72057594037927936 := by omega
      clear k1 hc k2
      generalize Oc.val (l.take j) = u at *
      generalize l.getD j 0 = x at *
      go_wp2
      go_round
      case rel => exact ⟨j + 1, by omega, by go_num, by rw [K1.out]; go_num⟩
      case measure => simp [RowKit.intOf]; omega
    · obtain rfl : j = n := by omega
      have E : Hid (l.take j = l) := Lib.hid (List.take_of_length_le (by rw [HA.out.1]; exact Nat.le_refl _))
      go_wp2
      go_ret
      exact ⟨by rw [E.out]; rfl, rfl⟩
theorem rtake_err (g : Nat) (s : Nat × List Nat) (k : Int) (w : World) (h : RR w g s) (he : s.1 ≠ 0) :
    Calls Tryd.prog 46 #[.pointer (some ⟨g, 0, none⟩), .int .u64 k] w fun e w' => e = .returned (.slice none 0 0) ∧ w = w' := by
  obtain ⟨p, n, c, a, B, hb, _⟩ := h
  have c2 : w.cell? ⟨g, 2, none⟩ = some (.int .i64 (s.1 : Int)) := hb.cell 2
  have t1 : ((s.1 : Int) != 0) = true := by simp; omega
  clear hb
  generalize s.1 = u at *
  clear he
  go_enter Tryd.func46, Tryd.ntmps46
  go_wp2
  go_ret
  exact ⟨rfl, rfl⟩
theorem RR.drewN {w : World} {g : Nat} {s : Nat × List Nat} (h : RR w g s) (n : Nat) : RR (w.drewN n) g s := h
set_option maxHeartbeats 1000000 in
theorem rtake_no (g k : Nat) (l : List Nat) (w : World) (h : RR w g (0, l)) (hk : l.length < k) :
    Calls Tryd.prog 46 #[.pointer (some ⟨g, 0, none⟩), .int .u64 (k : Int)] w fun e w' => e = .returned (.slice none 0 0) ∧ RTook w g (2, []) w' := by
  have H := Lib.hid h
  obtain ⟨p, n, c, a, B, hb, h1, h2, h3, hA, h4, _⟩ := h
  have hl : l.length = n - a := by rw [show l = B.drop a from h4 rfl, List.length_drop, hA.1]
  have c0 : w.cell? ⟨g, 0, none⟩ = some (.slice p n c) := hb.cell 0
  have c1 : w.cell? ⟨g, 1, none⟩ = some (.int .i64 (a : Int)) := hb.cell 1
  have c2 : w.cell? ⟨g, 2, none⟩ = some (.int .i64 0) := hb.cell 2
  have f2 := hb.frozen 2
  have i1 : (a : Int) ≤ (n : Int) := by omega
  have i2 : (n : Int) ≤ 1000000 := by omega
  have i3 : (n : Int) - (a : Int) < (k : Int) := by omega
  have e1 : IntKind.i64.wrap ((n : Int) - (a : Int)) = (n : Int) - (a : Int) := IntWalk.i64_in _ (by omega)
  have e2 : IntKind.u64.wrap ((n : Int) - (a : Int)) = (n : Int) - (a : Int) := by rw [IntKind.wrap_u64]; omega
  clear hb hA h1 h2 h3 h4 hk hl
  go_enter Tryd.func46, Tryd.ntmps46
  go_wp2
  go_quiet (fail)
  go_wp2
  go_ret
  exact ⟨rfl, rtook_trans (turn_drewN w _ _) (rtook_fail (H.out.drewN _) 2 (by decide))⟩
theorem rtook_cut {w : World} {g a k n c : Nat} {p q : Option Addr} {l B : List Nat} (hb : Lies w g 57 #[.slice p n c, .int .i64 (a : Int), .int .i64 0]) (h1 : n ≤ c) (h2 : n ≤ 1000000) (hA : At w p n B) (hak : a + k ≤ n) (hl : l = B.drop a)
    (hq : c = a ∨ q = p.map fun x => x.add a) : RTook w g (0, l.drop k) (w.setCell ⟨g, 1, none⟩ (.int .i64 ((a + k : Nat) : Int))) ∧ At (w.setCell ⟨g, 1, none⟩ (.int .i64 ((a + k : Nat) : Int))) q k (l.take k) := by
  have hP : Plain w (fun i => i = g) := by
    rintro i rfl
    exact ⟨_, _, hb, noU8_3 _ _ _ _ _⟩
  have ht : Turn (fun i => i = g) w (w.setCell ⟨g, 1, none⟩ (.int .i64 ((a + k : Nat) : Int))) := (Turn.refl (fun i => i = g) w).setCell (p := ⟨g, 1, none⟩) (.inl rfl) _
  refine ⟨⟨⟨p, n, c, a + k, B, by simpa using hb.set_ 1 (.int .i64 ((a + k : Nat) : Int)), h1, h2, hak, hA.plain ht hP, fun _ => by rw [hl, List.drop_drop], fun h0 => absurd rfl h0⟩, ht⟩, ?_⟩
  subst hl
  rcases hq with rfl | rfl
  · have e : k = 0 := by omega
    subst e
    exact At.none_left (by simp)
  · exact ((hA.cut (by omega)).take k (by omega)).plain ht hP
set_option maxHeartbeats 1000000 in
theorem rtake_yes (g k : Nat) (l : List Nat) (w : World) (h : RR w g (0, l)) (hk : k ≤ l.length) :
    Calls Tryd.prog 46 #[.pointer (some ⟨g, 0, none⟩), .int .u64 (k : Int)] w fun e w' => ∃ q d, e = .returned (.slice q k d) ∧ k ≤ d ∧ RTook w g (0, l.drop k) w' ∧ At w' q k (l.take k) := by
  obtain ⟨p, n, c, a, B, hb, h1, h2, h3, hA, h4, _⟩ := h
  have e0 : l = B.drop a := h4 rfl
  have hl : l.length = n - a := by rw [e0, List.length_drop, hA.1]
  have c0 : w.cell? ⟨g, 0, none⟩ = some (.slice p n c) := hb.cell 0
  have c1 : w.cell? ⟨g, 1, none⟩ = some (.int .i64 (a : Int)) := hb.cell 1
  have c2 : w.cell? ⟨g, 2, none⟩ = some (.int .i64 0) := hb.cell 2
  have f1 := hb.frozen 1
  have HB := Lib.hid hb
  have HA := Lib.hid hA
  have HE := Lib.hid e0
  have hak : a + k ≤ n := by omega
  have i0 : (0 : Int) ≤ (a : Int) := by omega
  have i1 : (a : Int) ≤ (n : Int) := by omega
  have i2 : (n : Int) ≤ 1000000 := by omega
  have i3 : ¬ (n : Int) - (a : Int) < (k : Int) := by omega
  have i3' : decide ((n : Int) - (a : Int) < (k : Int)) = false := by simp only [decide_eq_false_iff_not]; exact i3
  have i4 : (n : Int) ≤ (c : Int) := by omega
  have i5 : (a : Int) + (k : Int) ≤ (c : Int) := by omega
  have i6 : (a : Int) ≤ (a : Int) + (k : Int) := by omega
  have hac : a + k ≤ c := by omega
  have x1 : (0 : Int) ≤ (a : Int) + (k : Int) := by omega
  have x2 : ((a : Int) + (k : Int)).toNat = a + k := by omega
  have e1 : IntKind.i64.wrap ((n : Int) - (a : Int)) = (n : Int) - (a : Int) := IntWalk.i64_in _ (by omega)
  have e2 : IntKind.u64.wrap ((n : Int) - (a : Int)) = (n : Int) - (a : Int) := by rw [IntKind.wrap_u64]; omega
  have e3 : IntKind.i64.wrap (k : Int) = (k : Int) := IntWalk.i64_in _ (by omega)
  have e4 : IntKind.i64.wrap ((a : Int) + (k : Int)) = (a : Int) + (k : Int) := IntWalk.i64_in _ (by omega)
  clear hb hA h4 hk hl e0 h3
  have T : Hid (∀ m q, (c = a ∨ q = p.map fun x => x.add a) → RTook w g (0, l.drop k) ((w.drewN m).setCell ⟨g, 1, none⟩ (.int .i64 ((a : Int) + (k : Int)))) ∧ At ((w.drewN m).setCell ⟨g, 1, none⟩ (.int .i64 ((a : Int) + (k : Int)))) q k (l.take k)) := by
    refine Lib.hid fun m q hq => ?_
    have t := rtook_cut (w := w.drewN m) (HB.out.drewN m) h1 h2 (HA.out.drewN m) hak HE.out hq
    have e : ((a + k : Nat) : Int) = (a : Int) + (k : Int) := by omega
    rw [e] at t
    exact ⟨rtook_trans (turn_drewN w _ m) t.1, t.2⟩
  by_cases hca : c = a
  · subst hca
    have hk0 : k = 0 := by omega
    have HK := Lib.hid hk0
    clear hk0 HB HE
    go_enter Tryd.func46, Tryd.ntmps46
    go_wp2
    go_quiet (fail)
    go_wp2
    go_quiet (fail)
    go_wp2
    go_ret
    exact ⟨p, 0, by rw [HK.out]; rfl, by rw [HK.out]; exact Nat.le_refl _, T.out _ p (by first | exact .inl trivial | exact .inl rfl)⟩
  · clear HB HE
    go_enter Tryd.func46, Tryd.ntmps46
    go_wp2
    go_quiet (fail)
    go_wp2
    go_quiet (fail)
    go_wp2
    go_ret
    exact ⟨_, c - a, rfl, by omega, T.out _ _ (.inr rfl)⟩
theorem rget_err (g : Nat) (s : Nat × List Nat) (m : Int) (w : World) (h : RR w g s) (he : s.1 ≠ 0) :
    Calls Tryd.prog 45 #[.pointer (some ⟨g, 0, none⟩), .int .i64 m] w fun e w' => e = .returned (.int .u64 0) ∧ w = w' := by
  obtain ⟨p, n, c, a, B, hb, _⟩ := h
  have c2 : w.cell? ⟨g, 2, none⟩ = some (.int .i64 (s.1 : Int)) := hb.cell 2
  have t1 : ((s.1 : Int) != 0) = true := by simp; omega
  clear hb
  generalize s.1 = u at *
  clear he
  go_enter Tryd.func45, Tryd.ntmps45
  go_wp2
  go_ret
  exact ⟨rfl, rfl⟩
theorem rget_size (g : Nat) (l : List Nat) (m : Int) (w : World) (h : RR w g (0, l)) (hm : ¬ (1 ≤ m ∧ m ≤ 8)) :
    Calls Tryd.prog 45 #[.pointer (some ⟨g, 0, none⟩), .int .i64 m] w fun e w' => e = .returned (.int .u64 0) ∧ RTook w g (1, []) w' := by
  have F := Lib.hid (rtook_fail h 1 (by decide))
  obtain ⟨p, n, c, a, B, hb, _⟩ := h
  have c2 : w.cell? ⟨g, 2, none⟩ = some (.int .i64 0) := hb.cell 2
  have f2 := hb.frozen 2
  clear hb
  by_cases h1 : m < 1
  · clear hm
    go_enter Tryd.func45, Tryd.ntmps45
    go_wp2
    go_ret
    exact ⟨rfl, F.out⟩
  · have h2 : 8 < m := by omega
    clear hm
    go_enter Tryd.func45, Tryd.ntmps45
    go_wp2
    go_ret
    exact ⟨rfl, F.out⟩
set_option maxHeartbeats 1000000 in
theorem rget_short (g k : Nat) (l : List Nat) (w : World) (h : RR w g (0, l)) (h1 : 1 ≤ k) (h8 : k ≤ 8) (hk : l.length < k) :
    Calls Tryd.prog 45 #[.pointer (some ⟨g, 0, none⟩), .int .i64 (k : Int)] w fun e w' => e = .returned (.int .u64 0) ∧ RTook w g (2, []) w' := by
  have T := Lib.hid (rtake_no g k l w h hk)
  have V := Lib.hid (fun W => value_any none 0 0 [] W (by decide) (at_nil W))
  obtain ⟨p, n, c, a, B, hb, _⟩ := h
  have c2 : w.cell? ⟨g, 2, none⟩ = some (.int .i64 0) := hb.cell 2
  have i1 : (1 : Int) ≤ (k : Int) := by omega
  have i2 : (k : Int) ≤ 8 := by omega
  clear hb hk h1 h8
  go_enter Tryd.func45, Tryd.ntmps45
  go_wp2_with fail
  refine T.out.mono ?_
  rintro e w1 ⟨rfl, ht⟩
  have HT := Lib.hid ht
  clear ht
  go_wp2_with fail
  refine (V.out w1).mono ?_
  rintro e w2 ⟨rfl, rfl⟩
  go_wp2
  go_ret
  exact ⟨rfl, HT.out⟩
set_option maxHeartbeats 1000000 in
theorem rget_yes (g k : Nat) (l : List Nat) (w : World) (h : RR w g (0, l)) (h1 : 1 ≤ k) (h8 : k ≤ 8) (hk : k ≤ l.length) :
    Calls Tryd.prog 45 #[.pointer (some ⟨g, 0, none⟩), .int .i64 (k : Int)] w fun e w' => e = .returned (.int .u64 ((Oc.val (l.take k) : Nat) : Int)) ∧ RTook w g (0, l.drop k) w' := by
  have T := Lib.hid (rtake_yes g k l w h hk)
  have V := Lib.hid (fun W q d hA => value_any q k d (l.take k) W h8 hA)
  have c2 : w.cell? ⟨g, 2, none⟩ = some (.int .i64 0) := h.cell2
  have i1 : (1 : Int) ≤ (k : Int) := by omega
  have i2 : (k : Int) ≤ 8 := by omega
  clear h hk h1 h8
  go_enter Tryd.func45, Tryd.ntmps45
  go_wp2_with fail
  refine T.out.mono ?_
  rintro e w1 ⟨q, d, rfl, hd, ht, hA⟩
  have HT := Lib.hid ht
  have V1 := Lib.hid (V.out w1 q d hA)
  clear ht hA
  go_wp2_with fail
  refine V1.out.mono ?_
  rintro e w2 ⟨rfl, rfl⟩
  go_wp2
  go_ret
  exact ⟨rfl, HT.out⟩
/-- Num of the document's reader. -/
theorem rget_any (g : Nat) (s : Nat × List Nat) (m : Int) (w : World) (h : RR w g s) :
    Calls Tryd.prog 45 #[.pointer (some ⟨g, 0, none⟩), .int .i64 m] w fun e w' => e = .returned (.int .u64 (((Oc.rnum s m).1 : Nat) : Int)) ∧ RTook w g (Oc.rnum s m).2 w' := by
  obtain ⟨u, l⟩ := s
  by_cases he : u = 0
  · subst he
    by_cases hm : 1 ≤ m ∧ m ≤ 8
    · obtain ⟨k, rfl⟩ : ∃ k : Nat, m = k := ⟨m.toNat, by omega⟩
      by_cases hk : k ≤ l.length
      · have e : Oc.rnum (0, l) k = (Oc.val (l.take k), (0, l.drop k)) := by
          unfold Oc.rnum
          rw [if_neg (by simp), if_neg (by omega), if_neg (by show ¬ l.length < (k : Int).toNat; omega)]
          rfl
        rw [e]
        exact rget_yes g k l w h (by omega) (by omega) hk
      · have e : Oc.rnum (0, l) k = (0, (2, [])) := by
          unfold Oc.rnum
          rw [if_neg (by simp), if_neg (by omega), if_pos (by show l.length < (k : Int).toNat; omega)]
        rw [e]
        exact rget_short g k l w h (by omega) (by omega) (by omega)
    · have e : Oc.rnum (0, l) m = (0, (1, [])) := by
        unfold Oc.rnum
        rw [if_neg (by simp), if_pos hm]
      rw [e]
      exact rget_size g l m w h hm
  · have e : Oc.rnum (u, l) m = (0, (u, l)) := by
      unfold Oc.rnum
      rw [if_pos he]
    rw [e]
    exact (rget_err g (u, l) m w h he).mono fun e w' ⟨he', hw⟩ => ⟨he', hw ▸ rtook_refl h⟩
theorem rgint_any (g : Nat) (s : Nat × List Nat) (w : World) (h : RR w g s) :
    Calls Tryd.prog 30 #[.pointer (some ⟨g, 0, none⟩)] w fun e w' => e = .returned (.int .i64 (wrap64 (((Oc.rnum s 8).1 : Nat) : Int))) ∧ RTook w g (Oc.rnum s 8).2 w' := by
  have N := Lib.hid (rget_any g s 8 w h)
  clear h
  generalize Oc.rnum s 8 = r at *
  go_enter Tryd.func30, Tryd.ntmps30
  go_wp2_with fail
  refine N.out.mono ?_
  rintro e w' ⟨rfl, ht⟩
  have HT := Lib.hid ht
  clear ht
  go_wp2
  go_ret
  exact ⟨rfl, HT.out⟩
theorem RR.lt256 {w : World} {g : Nat} {s : Nat × List Nat} (h : RR w g s) : ∀ x ∈ s.2, x < 256 := by
  obtain ⟨p, n, c, a, B, hb, h1, h2, h3, hA, h4, h5⟩ := h
  by_cases he : s.1 = 0
  · rw [h4 he]
    exact Oc.mem_drop hA.2.1 a
  · rw [h5 he]
    simp
set_option maxHeartbeats 1000000 in
theorem rgrun_any (g : Nat) (s : Nat × List Nat) (w : World) (h : RR w g s) :
    Calls Tryd.prog 31 #[.pointer (some ⟨g, 0, none⟩)] w fun e w' => ∃ v, e = .returned v ∧ Out w' v (Oc.rrun s).1 ∧ RTook w g (Oc.rrun s).2 w' := by
  have N := Lib.hid (rget_any g s 4 w h)
  have L := Oc.rnum_lt h.lt256 4 4 rfl
  have E : Oc.rrun s = if (Oc.rnum s 4).2.1 ≠ 0 then ([], (Oc.rnum s 4).2) else if (Oc.rnum s 4).2.2.length < (Oc.rnum s 4).1 then ([], (2, [])) else ((Oc.rnum s 4).2.2.take (Oc.rnum s 4).1, (0, (Oc.rnum s 4).2.2.drop (Oc.rnum s 4).1)) := rfl
  have H1 := Lib.hid E
  clear h E
  generalize Oc.rrun s = z at *
  generalize Oc.rnum s 4 = r at *
  obtain ⟨u, e, t⟩ := r
  simp only at L H1
  have hu : (u : Int) < 4294967296 := by omega
  clear L
  go_enter Tryd.func31, Tryd.ntmps31
  go_wp2_with fail
  refine N.out.mono ?_
  rintro e' w1 ⟨rfl, hp, ht⟩
  have HT := Lib.hid ht
  by_cases he : e = 0
  · subst he
    by_cases hk : u ≤ t.length
    · have T := Lib.hid (rtake_yes g u t w1 hp hk)
      have HK : Hid ((t.take u).length = u) := Lib.hid (by rw [List.length_take]; omega)
      have HZ : Hid (z = (t.take u, (0, t.drop u))) := Lib.hid (by rw [H1.out, if_neg (by simp), if_neg (by omega)])
      clear hp ht hk
      go_wp2_with fail
      refine T.out.mono ?_
      rintro e w2 ⟨q, d, rfl, hd, ht2, hA⟩
      have HT2 := Lib.hid ht2
      have HA := Lib.hid hA
      clear ht2 hA
      go_wp2
      go_ret
      refine ⟨_, rfl, ?_⟩
      rw [HZ.out]
      exact ⟨⟨q, d, by rw [HK.out]; rfl, by rw [HK.out]; exact hd, by rw [HK.out]; exact HA.out⟩, rtook_trans HT.out HT2.out⟩
    · have T := Lib.hid (rtake_no g u t w1 hp (by omega))
      have HZ : Hid (z = ([], (2, []))) := Lib.hid (by rw [H1.out, if_neg (by simp), if_pos (by omega)])
      clear hp ht hk
      go_wp2_with fail
      refine T.out.mono ?_
      rintro e w2 ⟨rfl, ht2⟩
      have HT2 := Lib.hid ht2
      clear ht2
      go_wp2
      go_ret
      refine ⟨_, rfl, ?_⟩
      rw [HZ.out]
      exact ⟨out_nil _, rtook_trans HT.out HT2.out⟩
  · have T := Lib.hid (rtake_err g (e, t) (u : Int) w1 hp he)
    have HZ : Hid (z = ([], (e, t))) := Lib.hid (by rw [H1.out, if_pos he])
    have HP := Lib.hid hp
    clear hp ht he
    go_wp2_with fail
    refine T.out.mono ?_
    rintro e w2 ⟨rfl, rfl⟩
    go_wp2
    go_ret
    refine ⟨_, rfl, ?_⟩
    rw [HZ.out]
    exact ⟨out_nil _, HP.out, HT.out⟩
set_option maxHeartbeats 1000000 in
theorem rend_any (g : Nat) (s : Nat × List Nat) (w : World) (h : RR w g s) :
    Calls Tryd.prog 32 #[.pointer (some ⟨g, 0, none⟩)] w fun e w' => e = .returned (.int .i64 ((Oc.rdone s : Nat) : Int)) ∧ ∃ m, w' = w.drewN m := by
  obtain ⟨p, n, c, a, B, hb, h1, h2, h3, hA, h4, h5⟩ := h
  have c0 : w.cell? ⟨g, 0, none⟩ = some (.slice p n c) := hb.cell 0
  have c1 : w.cell? ⟨g, 1, none⟩ = some (.int .i64 (a : Int)) := hb.cell 1
  have c2 : w.cell? ⟨g, 2, none⟩ = some (.int .i64 (s.1 : Int)) := hb.cell 2
  have E : (s.1 = 0 → s.2.length = n - a) ∧ (s.1 ≠ 0 → s.2.length = 0) := by
    refine ⟨fun h0 => ?_, fun h0 => by rw [h5 h0]; rfl⟩
    rw [h4 h0, List.length_drop, hA.1]
  have R : Hid (Oc.rdone s = if 0 < s.2.length then 2 else s.1) := Lib.hid rfl
  have i1 : (a : Int) ≤ (n : Int) := by omega
  have i2 : (n : Int) ≤ 1000000 := by omega
  clear hb hA h4 h5
  have HE := Lib.hid E
  clear E
  generalize s.2.length = k at *
  generalize s.1 = u at *
  generalize Oc.rdone s = z at *
  by_cases hu : u = 0
  · have HE1 := Lib.hid (HE.out.1 hu)
    subst hu
    by_cases hlt : a < n
    · have hlt' : (a : Int) < (n : Int) := by omega
      have HZ : Hid (z = 2) := Lib.hid (by rw [R.out, if_pos (by have := HE1.out; omega)])
      go_enter Tryd.func32, Tryd.ntmps32
      go_wp2
      go_quiet (fail)
      go_wp2
      go_ret
      exact ⟨by rw [HZ.out]; rfl, _, rfl⟩
    · have hlt' : decide ((a : Int) < (n : Int)) = false := by simp; omega
      have hge : (n : Int) ≤ (a : Int) := by omega
      have HZ : Hid (z = 0) := Lib.hid (by rw [R.out, if_neg (by have := HE1.out; omega)])
      go_enter Tryd.func32, Tryd.ntmps32
      go_wp2
      go_quiet (fail)
      go_wp2
      go_ret
      exact ⟨by rw [HZ.out]; rfl, _, rfl⟩
  · have HZ : Hid (z = u) := Lib.hid (by rw [R.out, if_neg (by have := HE.out.2 hu; omega)])
    have t1 : ((u : Int) != 0) = true := by simp; omega
    clear hu
    go_enter Tryd.func32, Tryd.ntmps32
    go_wp2
    go_ret
    exact ⟨by rw [HZ.out]; rfl, 0, rfl⟩
theorem rbool_len (s : Nat × List Nat) : (Oc.rbool s).2.2.length ≤ s.2.length := by
  unfold Oc.rbool
  simp only
  split
  · exact Oc.rnum_len s 1
  · exact Nat.zero_le _
theorem rrun_len (s : Nat × List Nat) : (Oc.rrun s).2.2.length ≤ s.2.length := by
  unfold Oc.rrun
  have h := Oc.rnum_len s 4
  split
  · exact h
  · split
    · exact Nat.zero_le _
    · simp only [List.length_drop]
      omega
end Ob
end Go.Proofs.YtbahilakfgbgpaaDoor
