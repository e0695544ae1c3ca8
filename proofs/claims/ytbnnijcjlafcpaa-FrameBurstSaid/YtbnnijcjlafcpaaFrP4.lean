/- Walks over package frame: the frame of bytes. No condition but those written. -/
import Derived.Test.YtbnnijcjlafcpaaFrP3
import Derived.Test.YtbnnijcjlafcpaaCk2
import Derived.StillTailTactics
namespace Go.Proofs.Ytbnnijcjlafcpaa
open Go.RowKit

namespace Fr
def zcells : Array Value := #[.int .i64 0, .int .i64 0, .int .i64 0, .bool false, .bool false, .int .u64 0]
/-- What is left to do, and what it leaves: the frame, the error. -/
theorem keep_z {w w1 : World} {b g B : Nat} (h : Lies w B 24 zcells) (ht : Turn (fun k => k = b ∨ k = g) w w1) (hb : B < b) (hg : B < g) : Lies w1 B 24 zcells :=
  h.turn ht (fun h => by rcases h with rfl | rfl <;> omega)
theorem plain_z {w : World} {B : Nat} (h : Lies w B 24 zcells) : Plain w (fun k => k = B) := by
  rintro k rfl
  refine ⟨_, _, h, ?_⟩
  intro i x h
  match i with
  | 0 => simp [zcells] at h
  | 1 => simp [zcells] at h
  | 2 => simp [zcells] at h
  | 3 => simp [zcells] at h
  | 4 => simp [zcells] at h
  | 5 => simp [zcells] at h
  | i + 6 => simp [zcells] at h
theorem zfacts {w : World} {b : Nat} (h : Lies w b 24 zcells) :
    (w.cell? ⟨b, 0, none⟩ = some (.int .i64 0) ∧ w.cell? ⟨b, 1, none⟩ = some (.int .i64 0) ∧ w.cell? ⟨b, 2, none⟩ = some (.int .i64 0) ∧ w.cell? ⟨b, 3, none⟩ = some (.bool false) ∧ w.cell? ⟨b, 4, none⟩ = some (.bool false) ∧
      w.cell? ⟨b, 5, none⟩ = some (.int .u64 0)) ∧
    (w.frozen? ⟨b, 0, none⟩ = false ∧ w.frozen? ⟨b, 1, none⟩ = false ∧ w.frozen? ⟨b, 2, none⟩ = false ∧ w.frozen? ⟨b, 3, none⟩ = false ∧ w.frozen? ⟨b, 4, none⟩ = false ∧ w.frozen? ⟨b, 5, none⟩ = false) :=
  ⟨⟨h.cell 0, h.cell 1, h.cell 2, h.cell 3, h.cell 4, h.cell 5⟩, ⟨h.frozen 0, h.frozen 1, h.frozen 2, h.frozen 3, h.frozen 4, h.frozen 5⟩⟩
theorem turn6 (w : World) (B : Nat) (v0 v1 v2 v3 v4 v5 : Value) :
    Turn (fun k => k = B) w ((((((w.setCell ⟨B, 0, none⟩ v0).setCell ⟨B, 1, none⟩ v1).setCell ⟨B, 2, none⟩ v2).setCell ⟨B, 3, none⟩ v3).setCell ⟨B, 4, none⟩ v4).setCell ⟨B, 5, none⟩ v5) :=
  (((((Turn.refl (fun k => k = B) w).setCell (p := ⟨B, 0, none⟩) (.inl rfl) v0).setCell (p := ⟨B, 1, none⟩) (.inl rfl) v1).setCell (p := ⟨B, 2, none⟩) (.inl rfl) v2).setCell (p := ⟨B, 3, none⟩) (.inl rfl) v3).setCell (p := ⟨B, 4, none⟩) (.inl rfl) v4 |>.setCell (p := ⟨B, 5, none⟩) (.inl rfl) v5
theorem turn6d (w : World) (B : Nat) (v0 v1 v2 v3 v4 v5 : Value) :
    Turn (fun k => k = B) w ((((((w.drew.setCell ⟨B, 0, none⟩ v0).setCell ⟨B, 1, none⟩ v1).setCell ⟨B, 2, none⟩ v2).setCell ⟨B, 3, none⟩ v3).setCell ⟨B, 4, none⟩ v4).setCell ⟨B, 5, none⟩ v5) := by
  have h := turn6 w.drew B v0 v1 v2 v3 v4 v5
  exact ((Turn.refl (fun k => k = B) w).drew).trans h (fun _ h => .inl h)
theorem turn_below2 {w wi w' : World} {B b g : Nat} (h : Turn (fun k => k = b ∨ k = g) wi w') (hb : Below B w wi) (hB : B ≤ wi.heap.size) (h1 : B ≤ b) (h2 : B ≤ g) : Below B w w' :=
  h.below hb hB (fun i hi => by rcases hi with rfl | rfl <;> assumption)
set_option maxRecDepth 100000 in
set_option maxHeartbeats 2000000 in
theorem read_any (p : Option Addr) (n c : Nat) (l : List Nat) (w : World) (hn : n ≤ 1000000) (hA : At w p n l) :
    Calls Try.prog 26 #[.slice p n c] w fun e w' => e = .returned (.tuple #[val (rd l).1, .int .i64 ((rd l).2 : Int)]) ∧ Below w.heap.size w w' := by
  have N := Lib.hid (Ob.newr_any p n c l (w.alloc (.cells zcells 24)) hn (hA.keep (alloc_below w _)))
  have L0 := Lib.hid (Lies.new w 24 zcells)
  have B0 := Lib.hid (alloc_below w (.cells zcells 24))
  have Z0 : w.heap.size < (w.alloc (.cells zcells 24)).heap.size := by simp
  have HR : Hid (rd l = _) := Lib.hid (by unfold rd; rfl)
  unfold zcells at N Z0
  clear hA
  go_enter Try.func26, Try.ntmps26
  go_wp2_with fail
  refine N.out.mono ?_
  rintro e w1 ⟨g, rfl, hg, hp, hb⟩
  have hz1 := hb.size
  have L1 := Lib.hid (L0.out.below hb L0.out.lt)
  have B1 := Lib.hid (B0.out.trans (hb.mono B0.out.size))
  have D1 := Lib.hid (show Dr (w1.alloc (.cells (dcells g zero) 75)) w1.heap.size g zero from Lies.new w1 75 _)
  have P1 := Lib.hid (hp.below (alloc_below w1 (.cells (dcells g zero) 75)))
  have hgl := hp.lt
  have hne : w1.heap.size ≠ g := by omega
  have LA := Lib.hid (L1.out.alloc (.cells (dcells g zero) 75))
  have BA := Lib.hid (B1.out.alloc B1.out.size (.cells (dcells g zero) 75))
  have hB1 : w.heap.size < w1.heap.size := by omega
  have hB2 : w.heap.size < g := by omega
  clear hb hp
  have G := Lib.hid (Ob.gbool_any g (0, l) _ P1.out)
  obtain ⟨⟨d0, _⟩, _⟩ := D1.out.facts
  unfold dcells zero at G d0
  have HN := Lib.hid hne
  have HG1 := Lib.hid hB1
  have HG2 := Lib.hid hB2
  clear hne hB1 hB2 hgl hg hz1 Z0
  by_cases hq : (Oc.rbool (0, l)).1 = true
  · rw [if_pos hq] at HR
    rw [hq] at G
    go_wp2_with fail
    refine G.out.mono ?_
    rintro e w2 ⟨rfl, ht⟩
    clear G d0
    have D2 := Lib.hid (show Dr w2 w1.heap.size g zero from D1.out.turn ht.2 HN.out)
    have L2 := Lib.hid (LA.out.turn ht.2 (fun h => by have := HG2.out; omega))
    have B2 := Lib.hid (ht.2.below BA.out BA.out.size (fun i hi => by rw [hi]; exact Nat.le_of_lt HG2.out))
    have PL := Lib.hid (place_any w1.heap.size g zero _ w2 HN.out D2.out ht.1)
    clear ht LA BA D1 P1 L1 B1
    go_wp2_with fail
    refine PL.out.mono ?_
    rintro e w3 ⟨rfl, hd, hp, ht⟩
    have L3 := Lib.hid (keep_z L2.out ht HG1.out HG2.out)
    have B3 := Lib.hid (turn_below2 ht B2.out B2.out.size (Nat.le_of_lt HG1.out) (Nat.le_of_lt HG2.out))
    have DO := Lib.hid (door_any _ g _ _ w3 HN.out hd hp)
    clear hd hp ht L2 B2 D2 PL
    generalize Oc.rbool (Oc.rnum (Oc.rnum (Oc.rnum (Oc.rbool (0, l)).2 1).2 2).2 3).2 = y4 at *
    generalize Oc.rnum (Oc.rnum (Oc.rnum (Oc.rbool (0, l)).2 1).2 2).2 3 = y3 at *
    generalize Oc.rnum (Oc.rnum (Oc.rbool (0, l)).2 1).2 2 = y2 at *
    generalize Oc.rnum (Oc.rbool (0, l)).2 1 = y1 at *
    obtain ⟨x4, s4⟩ := y4
    obtain ⟨x3, s3⟩ := y3
    obtain ⟨x2, s2⟩ := y2
    obtain ⟨x1, s1⟩ := y1
    simp only at *
    go_wp2_with fail
    refine DO.out.mono ?_
    rintro e w4 ⟨rfl, hd, hp, ht⟩
    have L4 := Lib.hid (keep_z L3.out ht HG1.out HG2.out)
    have B4 := Lib.hid (turn_below2 ht B3.out B3.out.size (Nat.le_of_lt HG1.out) (Nat.le_of_lt HG2.out))
    have E4 := Lib.hid (fun W h => Ob.end_any g _ W (hp.turn (S := fun k => k = w.heap.size) (w' := W) h (plain_z L4.out) (fun hk => by have := HG2.out; omega)))
    have KS : Hid (∀ W, Turn (fun k => k = w.heap.size) w4 W → W.cell? ⟨w1.heap.size, 0, none⟩ = some (.pointer (some ⟨g, 0, none⟩)) ∧ W.cell? ⟨w1.heap.size, 1, none⟩ = some (.int .i64 (x1 : Int)) ∧ W.cell? ⟨w1.heap.size, 2, none⟩ = some (.int .i64 (x2 : Int)) ∧ W.cell? ⟨w1.heap.size, 3, none⟩ = some (.int .i64 (x3 : Int)) ∧ W.cell? ⟨w1.heap.size, 4, none⟩ = some (.bool true) ∧ W.cell? ⟨w1.heap.size, 5, none⟩ = some (.bool x4) ∧ W.cell? ⟨w1.heap.size, 6, none⟩ = some (.int .u64 0)) := Lib.hid (fun W h => (Dr.facts (Lies.turn hd h (fun hk => by have := HG1.out; omega))).1)
    clear hd hp ht L3 B3 DO
    obtain ⟨⟨r0, r1, r2, r3, r4, r5⟩, ⟨g0, g1, g2, g3, g4, g5⟩⟩ := zfacts L4.out
    go_wp2_with fail
    have ED : Hid (Calls Try.prog 48 #[.pointer (some ⟨g, 0, none⟩)] w4.drew (fun e w'' => e = .returned (.int .i64 (Oc.rdone s4 : Nat)) ∧ w'' = w4.drew)) := Lib.hid ((E4.out w4.drew ((Turn.refl _ _).drew)).mono (fun _ _ h => ⟨h.1, h.2.symm⟩))
    obtain ⟨c0, c1, c2, c3, c4, c5, c6⟩ := KS.out w4 (Turn.refl _ _)
    go_still_tail 9, (by kernel_rfl)
    still_call ED.out
    repeat still_step
    refine wpStill_nil ?_
    clear ED c0 c1 c2 c3 c4 c5 c6
    go_wp2
    refine bodyPost_ret (v := .tuple #[val ⟨x1, x2, x3, true, x4, 0⟩, .int .i64 (Oc.rdone s4 : Nat)]) (by simp [results, Try.results26, go_sem, val, r0, r1, r2, r3, r4, r5]) rfl ⟨by rw [HR.out], ?_⟩
    refine Below.drew ?_
    iterate 6 refine Below.setCell ?_ (show w.heap.size ≤ _ from Nat.le_refl _) _
    exact B4.out
  · have hq' : (Oc.rbool (0, l)).1 = false := by simpa using hq
    rw [if_neg hq] at HR
    rw [hq'] at G
    go_wp2_with fail
    refine G.out.mono ?_
    rintro e w2 ⟨rfl, ht⟩
    clear G d0
    have D2 := Lib.hid (show Dr w2 w1.heap.size g zero from D1.out.turn ht.2 HN.out)
    have L2 := Lib.hid (LA.out.turn ht.2 (fun h => by have := HG2.out; omega))
    have B2 := Lib.hid (ht.2.below BA.out BA.out.size (fun i hi => by rw [hi]; exact Nat.le_of_lt HG2.out))
    have PL := Lib.hid (place_any w1.heap.size g zero _ w2 HN.out D2.out ht.1)
    clear ht LA BA D1 P1 L1 B1
    go_wp2_with fail
    refine PL.out.mono ?_
    rintro e w3 ⟨rfl, hd, hp, ht⟩
    have L3 := Lib.hid (keep_z L2.out ht HG1.out HG2.out)
    have B3 := Lib.hid (turn_below2 ht B2.out B2.out.size (Nat.le_of_lt HG1.out) (Nat.le_of_lt HG2.out))
    have DO := Lib.hid (air_any _ g _ _ w3 HN.out hd hp)
    clear hd hp ht L2 B2 D2 PL
    generalize Oc.rnum (Oc.rnum (Oc.rnum (Oc.rnum (Oc.rbool (0, l)).2 1).2 2).2 3).2 8 = y4 at *
    generalize Oc.rnum (Oc.rnum (Oc.rnum (Oc.rbool (0, l)).2 1).2 2).2 3 = y3 at *
    generalize Oc.rnum (Oc.rnum (Oc.rbool (0, l)).2 1).2 2 = y2 at *
    generalize Oc.rnum (Oc.rbool (0, l)).2 1 = y1 at *
    obtain ⟨x4, s4⟩ := y4
    obtain ⟨x3, s3⟩ := y3
    obtain ⟨x2, s2⟩ := y2
    obtain ⟨x1, s1⟩ := y1
    simp only at *
    go_wp2_with fail
    refine DO.out.mono ?_
    rintro e w4 ⟨rfl, hd, hp, ht⟩
    have L4 := Lib.hid (keep_z L3.out ht HG1.out HG2.out)
    have B4 := Lib.hid (turn_below2 ht B3.out B3.out.size (Nat.le_of_lt HG1.out) (Nat.le_of_lt HG2.out))
    have E4 := Lib.hid (fun W h => Ob.end_any g _ W (hp.turn (S := fun k => k = w.heap.size) (w' := W) h (plain_z L4.out) (fun hk => by have := HG2.out; omega)))
    have KS : Hid (∀ W, Turn (fun k => k = w.heap.size) w4 W → W.cell? ⟨w1.heap.size, 0, none⟩ = some (.pointer (some ⟨g, 0, none⟩)) ∧ W.cell? ⟨w1.heap.size, 1, none⟩ = some (.int .i64 (x1 : Int)) ∧ W.cell? ⟨w1.heap.size, 2, none⟩ = some (.int .i64 (x2 : Int)) ∧ W.cell? ⟨w1.heap.size, 3, none⟩ = some (.int .i64 (x3 : Int)) ∧ W.cell? ⟨w1.heap.size, 4, none⟩ = some (.bool false) ∧ W.cell? ⟨w1.heap.size, 5, none⟩ = some (.bool false) ∧ W.cell? ⟨w1.heap.size, 6, none⟩ = some (.int .u64 (x4 : Int))) := Lib.hid (fun W h => (Dr.facts (Lies.turn hd h (fun hk => by have := HG1.out; omega))).1)
    clear hd hp ht L3 B3 DO
    obtain ⟨⟨r0, r1, r2, r3, r4, r5⟩, ⟨g0, g1, g2, g3, g4, g5⟩⟩ := zfacts L4.out
    go_wp2_with fail
    have ED : Hid (Calls Try.prog 48 #[.pointer (some ⟨g, 0, none⟩)] w4.drew (fun e w'' => e = .returned (.int .i64 (Oc.rdone s4 : Nat)) ∧ w'' = w4.drew)) := Lib.hid ((E4.out w4.drew ((Turn.refl _ _).drew)).mono (fun _ _ h => ⟨h.1, h.2.symm⟩))
    obtain ⟨c0, c1, c2, c3, c4, c5, c6⟩ := KS.out w4 (Turn.refl _ _)
    go_still_tail 9, (by kernel_rfl)
    still_call ED.out
    repeat still_step
    refine wpStill_nil ?_
    clear ED c0 c1 c2 c3 c4 c5 c6
    go_wp2
    refine bodyPost_ret (v := .tuple #[val ⟨x1, x2, x3, false, false, x4⟩, .int .i64 (Oc.rdone s4 : Nat)]) (by simp [results, Try.results26, go_sem, val, r0, r1, r2, r3, r4, r5]) rfl ⟨by rw [HR.out], ?_⟩
    refine Below.drew ?_
    iterate 6 refine Below.setCell ?_ (show w.heap.size ≤ _ from Nat.le_refl _) _
    exact B4.out
theorem dec_fin {b : List Nat} {n : Nat} (hn : b.length = n + 2) (h : b.length = 10 ∨ b.length = 17) (hg : Ck.goodB b = true) : dec b = fin (rd (b.take n)) := dec_rd hn h hg
set_option maxRecDepth 100000 in
set_option maxHeartbeats 1000000 in
theorem fdec_len (p : Option Addr) (n c : Nat) (b : List Nat) (w : World) (hA : At w p n b) (h : ¬ (n = 10 ∨ n = 17)) :
    Calls Try.prog 11 #[.slice p n c] w fun e w' => e = .returned (.tuple #[val (dec b).1, .int .i64 ((dec b).2 : Int)]) ∧ Below w.heap.size w w' := by
  have E : Hid (dec b = (zero, 2)) := Lib.hid (by unfold dec; rw [if_pos (by rw [hA.1]; exact h)])
  have t1 : ((n : Int) != 10) = true := by simp; omega
  have t2 : ((n : Int) != 17) = true := by simp; omega
  clear hA h
  go_enter Try.func11, Try.ntmps11
  go_wp2
  exact bodyPost_ret (v := .tuple #[val zero, .int .i64 2]) (by simp [results, Try.results11, go_sem, val, zero]) rfl ⟨by rw [E.out]; rfl, alloc_below w _⟩
set_option maxRecDepth 100000 in
set_option maxHeartbeats 1000000 in
theorem fdec_sum (p : Option Addr) (n c : Nat) (b : List Nat) (w : World) (hnc : n ≤ c) (hA : At w p n b) (h : n = 10 ∨ n = 17) (hg : Ck.goodB b = false) :
    Calls Try.prog 11 #[.slice p n c] w fun e w' => e = .returned (.tuple #[val (dec b).1, .int .i64 ((dec b).2 : Int)]) ∧ Below w.heap.size w w' := by
  have E : Hid (dec b = (zero, 3)) := Lib.hid (by unfold dec; rw [if_neg (show ¬ ¬ (b.length = 10 ∨ b.length = 17) by rw [hA.1]; exact fun x => x h), if_pos hg])
  have G := Lib.hid (fun W (hb : Below w.heap.size w W) => Ck.open_no p n c b W (by omega) hnc (hA.keep hb) hg)
  have B0 := Lib.hid (alloc_below w (.cells #[.int .i64 0, .int .i64 0, .int .i64 0, .bool false, .bool false, .int .u64 0] 24))
  clear hA hg hnc
  rcases h with rfl | rfl
  all_goals
    go_enter Try.func11, Try.ntmps11
    go_wp2_with fail
    refine (G.out _ B0.out).mono ?_
    rintro e w' ⟨rfl, m, rfl⟩
    go_wp2
    refine bodyPost_ret (v := .tuple #[val zero, .int .i64 3]) (by simp [results, Try.results11, go_sem, val, zero]) rfl ⟨by rw [E.out]; rfl, ?_⟩
    iterate 6 refine Below.setCell ?_ (show w.heap.size ≤ _ from Nat.le_refl _) _
    first
      | exact below_drewN (alloc_below w _) m
      | exact (below_drewN (Below.refl _ w) m).alloc (Nat.le_refl _) _
set_option maxRecDepth 100000 in
set_option maxHeartbeats 2000000 in
/-- Bytes of a good length that are good. -/
theorem fdec_good (p : Option Addr) (m c : Nat) (b : List Nat) (w : World) (hnc : m + 2 ≤ c) (hA : At w p (m + 2) b) (h : m = 8 ∨ m = 15) (hg : Ck.goodB b = true) :
    Calls Try.prog 11 #[.slice p (m + 2) c] w fun e w' => e = .returned (.tuple #[val (dec b).1, .int .i64 ((dec b).2 : Int)]) ∧ Below w.heap.size w w' := by
  have hD := dec_rd (n := m) hA.1 (by rw [hA.1]; omega) hg
  have G := Lib.hid (fun W (hb : Below w.heap.size w W) => Ck.open_yes p m c b W (by omega) hnc (hA.keep hb) hg)
  have R := Lib.hid (fun (q : Option Addr) (d : Nat) W (hA : At W q m (b.take m)) => read_any q m d (b.take m) W (by omega) hA)
  have L0 := Lib.hid (Lies.new w 24 zcells)
  have B0 := Lib.hid (alloc_below w (.cells #[.int .i64 0, .int .i64 0, .int .i64 0, .bool false, .bool false, .int .u64 0] 24))
  clear hA hg
  generalize rd (b.take m) = r at *
  obtain ⟨f, e⟩ := r
  have HD := Lib.hid hD
  clear hD
  have t1 : (((m + 2 : Nat) : Int) != 17 && ((m + 2 : Nat) : Int) != 10) = false := by
    rcases h with rfl | rfl <;> decide
  by_cases he : e = 0
  · subst he
    obtain ⟨z, s, mi, d, o, bi⟩ := f
    have RI := Lib.hid (fun W => fright_any ⟨z, s, mi, d, o, bi⟩ W)
    unfold val at R RI
    simp only at R RI
    by_cases hok : okB ⟨z, s, mi, d, o, bi⟩ = true
    · have E : Hid (dec b = (⟨z, s, mi, d, o, bi⟩, 0)) := Lib.hid (by
        rw [HD.out]
        unfold fin
        rw [if_pos ⟨rfl, hok⟩])
      rw [hok] at RI
      clear HD hok
      rcases h with rfl | rfl
      all_goals
        go_enter Try.func11, Try.ntmps11
        go_wp2_with fail
        refine (G.out _ B0.out).mono ?_
        rintro e1 w1 ⟨q, d1, rfl, hd1, hA1, hb1⟩
        have L1 := Lib.hid (L0.out.below hb1 L0.out.lt)
        have B1 := Lib.hid (B0.out.trans (hb1.mono B0.out.size))
        have R1 := Lib.hid (R.out q d1 w1 hA1)
        clear hb1 hA1
        go_wp2_with fail
        refine R1.out.mono ?_
        rintro e2 w2 ⟨rfl, hb2⟩
        have L2 := Lib.hid (L1.out.below hb2 L1.out.lt)
        have B2 := Lib.hid (B1.out.trans (hb2.mono B1.out.size))
        have hlt := L2.out.lt
        have N2 := Lib.hid (Lies.new w2 24 #[.int .i64 z, .int .i64 s, .int .i64 mi, .bool d, .bool o, .int .u64 (bi : Int)])
        have M2 := Lib.hid (L2.out.alloc (.cells #[.int .i64 z, .int .i64 s, .int .i64 mi, .bool d, .bool o, .int .u64 (bi : Int)] 24))
        have B3 := Lib.hid (B2.out.alloc B2.out.size (.cells #[.int .i64 z, .int .i64 s, .int .i64 mi, .bool d, .bool o, .int .u64 (bi : Int)] 24))
        have HL := Lib.hid hlt
        clear hb2 hlt
        go_wp2_with fail
        refine (RI.out _).mono ?_
        rintro e3 w3 ⟨rfl, hb3⟩
        have N3 := Lib.hid (N2.out.below hb3 N2.out.lt)
        have M3 := Lib.hid (M2.out.below hb3 M2.out.lt)
        have B4 := Lib.hid (B3.out.trans (hb3.mono B3.out.size))
        clear hb3
        obtain ⟨⟨r0, r1, r2, r3, r4, r5⟩, ⟨g0, g1, g2, g3, g4, g5⟩⟩ := zfacts M3.out
        have s0 : w3.cell? ⟨w2.heap.size, 0, none⟩ = some (.int .i64 z) := N3.out.cell 0
        have s1 : w3.cell? ⟨w2.heap.size, 1, none⟩ = some (.int .i64 s) := N3.out.cell 1
        have s2 : w3.cell? ⟨w2.heap.size, 2, none⟩ = some (.int .i64 mi) := N3.out.cell 2
        have s3 : w3.cell? ⟨w2.heap.size, 3, none⟩ = some (.bool d) := N3.out.cell 3
        have s4 : w3.cell? ⟨w2.heap.size, 4, none⟩ = some (.bool o) := N3.out.cell 4
        have s5 : w3.cell? ⟨w2.heap.size, 5, none⟩ = some (.int .u64 (bi : Int)) := N3.out.cell 5
        go_wp2
        refine bodyPost_ret (v := .tuple #[val ⟨z, s, mi, d, o, bi⟩, .int .i64 0]) (by simp [results, Try.results11, go_sem, val, r0, r1, r2, r3, r4, r5]) rfl ⟨by rw [E.out]; rfl, ?_⟩
        iterate 6 refine Below.setCell ?_ (show w.heap.size ≤ _ from Nat.le_refl _) _
        exact B4.out
    · have hok' : okB ⟨z, s, mi, d, o, bi⟩ = false := by simpa using hok
      have E : Hid (dec b = (zero, 2)) := Lib.hid (by
        rw [HD.out]
        unfold fin
        rw [if_neg (fun x => hok x.2)])
      rw [hok'] at RI
      clear HD hok hok'
      rcases h with rfl | rfl
      all_goals
        go_enter Try.func11, Try.ntmps11
        go_wp2_with fail
        refine (G.out _ B0.out).mono ?_
        rintro e1 w1 ⟨q, d1, rfl, hd1, hA1, hb1⟩
        have L1 := Lib.hid (L0.out.below hb1 L0.out.lt)
        have B1 := Lib.hid (B0.out.trans (hb1.mono B0.out.size))
        have R1 := Lib.hid (R.out q d1 w1 hA1)
        clear hb1 hA1
        go_wp2_with fail
        refine R1.out.mono ?_
        rintro e2 w2 ⟨rfl, hb2⟩
        have L2 := Lib.hid (L1.out.below hb2 L1.out.lt)
        have B2 := Lib.hid (B1.out.trans (hb2.mono B1.out.size))
        have M2 := Lib.hid (L2.out.alloc (.cells #[.int .i64 z, .int .i64 s, .int .i64 mi, .bool d, .bool o, .int .u64 (bi : Int)] 24))
        have B3 := Lib.hid (B2.out.alloc B2.out.size (.cells #[.int .i64 z, .int .i64 s, .int .i64 mi, .bool d, .bool o, .int .u64 (bi : Int)] 24))
        clear hb2
        go_wp2_with fail
        refine (RI.out _).mono ?_
        rintro e3 w3 ⟨rfl, hb3⟩
        have M3 := Lib.hid (M2.out.below hb3 M2.out.lt)
        have B4 := Lib.hid (B3.out.trans (hb3.mono B3.out.size))
        clear hb3
        obtain ⟨⟨r0, r1, r2, r3, r4, r5⟩, ⟨g0, g1, g2, g3, g4, g5⟩⟩ := zfacts M3.out
        go_wp2
        refine bodyPost_ret (v := .tuple #[val zero, .int .i64 2]) (by simp [results, Try.results11, go_sem, val, zero, r0, r1, r2, r3, r4, r5]) rfl ⟨by rw [E.out]; rfl, ?_⟩
        iterate 6 refine Below.setCell ?_ (show w.heap.size ≤ _ from Nat.le_refl _) _
        exact B4.out
  · have E : Hid (dec b = (zero, 2)) := Lib.hid (by rw [HD.out, fin_no he])
    have t2 : ((e : Int) != 0) = true := by simp; omega
    obtain ⟨z, s, mi, d, o, bi⟩ := f
    unfold val at R
    simp only at R
    rcases h with rfl | rfl
    all_goals
      go_enter Try.func11, Try.ntmps11
      go_wp2_with fail
      refine (G.out _ B0.out).mono ?_
      rintro e1 w1 ⟨q, d1, rfl, hd1, hA1, hb1⟩
      have L1 := Lib.hid (L0.out.below hb1 L0.out.lt)
      have B1 := Lib.hid (B0.out.trans (hb1.mono B0.out.size))
      have R1 := Lib.hid (R.out q d1 w1 hA1)
      clear hb1 hA1
      go_wp2_with fail
      refine R1.out.mono ?_
      rintro e2 w2 ⟨rfl, hb2⟩
      have L2 := Lib.hid (L1.out.below hb2 L1.out.lt)
      have B2 := Lib.hid (B1.out.trans (hb2.mono B1.out.size))
      clear hb2
      obtain ⟨⟨r0, r1, r2, r3, r4, r5⟩, ⟨g0, g1, g2, g3, g4, g5⟩⟩ := zfacts L2.out
      have A : ∀ o i, (w2.alloc o).cell? ⟨w.heap.size, i, none⟩ = w2.cell? ⟨w.heap.size, i, none⟩ := fun o i => (alloc_below w2 o).cell (p := ⟨w.heap.size, i, none⟩) L2.out.lt
      have F : ∀ o i, (w2.alloc o).frozen? ⟨w.heap.size, i, none⟩ = w2.frozen? ⟨w.heap.size, i, none⟩ := fun o i => (alloc_below w2 o).frozen (p := ⟨w.heap.size, i, none⟩) L2.out.lt
      have B3 := Lib.hid (B2.out.alloc B2.out.size (.cells #[.int .i64 z, .int .i64 s, .int .i64 mi, .bool d, .bool o, .int .u64 (bi : Int)] 24))
      go_wp2
      refine bodyPost_ret (v := .tuple #[val zero, .int .i64 2]) (by simp [results, Try.results11, go_sem, val, zero, A, r0, r1, r2, r3, r4, r5]) rfl ⟨by rw [E.out]; rfl, ?_⟩
      iterate 6 refine Below.setCell ?_ (show w.heap.size ≤ _ from Nat.le_refl _) _
      exact B3.out
/-- The frame of bytes: the program. -/
theorem fdec_any (p : Option Addr) (n c : Nat) (b : List Nat) (w : World) (hnc : n ≤ c) (hA : At w p n b) :
    Calls Try.prog 11 #[.slice p n c] w fun e w' => e = .returned (.tuple #[val (dec b).1, .int .i64 ((dec b).2 : Int)]) ∧ Below w.heap.size w w' := by
  by_cases h : n = 10 ∨ n = 17
  · by_cases hg : Ck.goodB b = true
    · rcases h with rfl | rfl
      · exact fdec_good p 8 c b w hnc hA (.inl rfl) hg
      · exact fdec_good p 15 c b w hnc hA (.inr rfl) hg
    · exact fdec_sum p n c b w hnc hA h (by simpa using hg)
  · exact fdec_len p n c b w hA h
end Fr
end Go.Proofs.Ytbnnijcjlafcpaa
