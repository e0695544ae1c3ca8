/- The walk over the law that holds package fefo against the document's answer. Conditions: the contracts of package fefo; the list reads as lots. -/
import Derived.Test.YtclpdemhfbjliaaFfL1
namespace Go.Proofs.Ytclpdemhfbjliaa
open Go.RowKit Lo

namespace Ff
theorem pk_bd : ∀ (left : Int) (Q : List Lt), (∀ x ∈ Q, 1 ≤ x.units ∧ x.units ≤ 1048576) → ∀ t ∈ pk left Q, 0 ≤ t.2 ∧ t.2 ≤ 1048576
  | _, [], _, t, ht => by simp [pk] at ht
  | left, x :: Q, h, t, ht => by
    unfold pk at ht
    split at ht
    · simp at ht
    · have hx := h x (by simp)
      rcases List.mem_cons.1 ht with rfl | ht
      · simp only
        omega
      · exact pk_bd _ Q (fun y hy => h y (List.mem_cons_of_mem _ hy)) t ht
theorem pk_len : ∀ (left : Int) (Q : List Lt), (pk left Q).length ≤ Q.length
  | _, [] => by simp [pk]
  | left, x :: Q => by
    unfold pk
    split
    · simp
    · simp only [List.length_cons]
      have := pk_len (left - min x.units left) Q
      omega
theorem good_of {l : List Lt} {p u : Int} (h : wrongB l p u = false) : ∀ x ∈ ofP l p, 1 ≤ x.units ∧ x.units ≤ 1048576 := fun x hx => by
  have := (pst_start h).good x
  rw [rem_others] at this
  exact this (isort_mem.1 hx)
theorem ofP_len (l : List Lt) (p : Int) : (ofP l p).length ≤ l.length := by
  unfold ofP
  rw [isort_len]
  exact List.length_filter_le _ _
theorem pick_bd (l : List Lt) (p u : Int) : ∀ t ∈ (pickL l p u).1, 0 ≤ t.2 ∧ t.2 ≤ 1048576 := by
  cases hw : wrongB l p u with
  | true =>
    rw [pick_wrong hw]
    simp
  | false =>
    cases hs : short u (ofP l p) with
    | true =>
      rw [pick_short hw hs]
      simp
    | false =>
      rw [pick_ok hw hs]
      exact pk_bd u _ (good_of hw)
theorem pick_len (l : List Lt) (p u : Int) : (pickL l p u).1.length ≤ l.length := by
  cases hw : wrongB l p u with
  | true =>
    rw [pick_wrong hw]
    simp
  | false =>
    cases hs : short u (ofP l p) with
    | true =>
      rw [pick_short hw hs]
      simp
    | false =>
      rw [pick_ok hw hs]
      exact Nat.le_trans (pk_len u _) (ofP_len l p)
theorem tot_next {T : List (Int × Int)} {k : Nat} {t : Int × Int} (h : T[k]? = some t) : totT (T.take (k + 1)) = totT (T.take k) + t.2 := by
  unfold totT
  rw [List.take_add_one, h, List.map_append, List.sum_append]
  simp
theorem tot_bd : ∀ {T : List (Int × Int)}, (∀ t ∈ T, 0 ≤ t.2 ∧ t.2 ≤ 1048576) → 0 ≤ totT T ∧ totT T ≤ T.length * 1048576
  | [], _ => by simp [totT]
  | t :: T, h => by
    have h1 := tot_bd (T := T) (fun s hs => h s (List.mem_cons_of_mem _ hs))
    have h2 := h t (by simp)
    unfold totT at *
    simp only [List.map_cons, List.sum_cons, List.length_cons]
    omega
set_option maxRecDepth 100000 in
set_option maxHeartbeats 16000000 in
theorem ftells_long (I : Face) (p : Option Addr) (n c : Nat) (pr u : Int) (w : World) (hn : 60 < n) (hn2 : n ≤ 9223372036854775807) :
    Calls Try.prog 3 #[.slice p n c, .int .i64 pr, .int .i64 u] w fun e w' => e = .returned (.bool true) ∧ Below w.heap.size w w' := by
  have AL := Lib.hid (fun W => falive_any I W)
  have t0 : decide (((n : Nat) : Int) > 60) = true := by simp; omega
  have hn3 : ((n : Nat) : Int) ≤ 9223372036854775807 := by omega
  clear hn hn2
  go_enter Try.func3, Try.ntmps3
  go_wp2_with fail
  refine (AL.out _).mono ?_
  rintro e w2 ⟨rfl, hb⟩
  have B2 := Lib.hid hb
  clear hb
  go_wp2
  go_ret
  exact ⟨rfl, B2.out⟩
set_option maxRecDepth 100000 in
set_option maxHeartbeats 16000000 in
theorem ftells_short (I : Face) (p : Option Addr) (n c : Nat) (L : List Lv) (pr u : Int) (w : World) (hA : Rw 8 lcells w p n L) (hn : n ≤ 60) (hnc : n ≤ c) (hu0 : -9223372036854775808 ≤ u) (hu1 : u ≤ 9223372036854775807) :
    Calls Try.prog 3 #[.slice p n c, .int .i64 pr, .int .i64 u] w fun e w' => e = .returned (.bool true) ∧ Below w.heap.size w w' := by
  have AL := Lib.hid (fun W => falive_any I W)
  have HS := Lib.hid (show (lts L).length = n by unfold lts; rw [List.length_map]; exact hA.1)
  have HI := Lib.hid (show ((isort (lts L)).map Lt.id).length = n by rw [List.length_map, isort_len]; exact HS.out)
  have C1 := Lib.hid (fun W (hW : Below w.heap.size w W) => I.order p n c L W (hA.keep lcells_len hW) (by omega) hnc)
  have R1 := Lib.hid (fun W (hW : Below w.heap.size w W) => r15order_any p n c L W (hA.keep lcells_len hW) (by omega))
  have C2 := Lib.hid (fun W (hW : Below w.heap.size w W) => I.pick p n c L pr u W (hA.keep lcells_len hW) (by omega) hnc hu0 hu1)
  have R2 := Lib.hid (fun W (hW : Below w.heap.size w W) => r15pick_any p n c L pr u W (hA.keep lcells_len hW) (by omega) hu1)
  unfold OrderEnd at C1 R1
  unfold PickP at C2
  unfold PickEnd at R2
  have PB := Lib.hid (pick_bd (lts L) pr u)
  have PL := pick_len (lts L) pr u
  rw [HS.out] at C1 R1 PL
  generalize (isort (lts L)).map Lt.id = D at *
  generalize (pickL (lts L) pr u).2 = er at *
  generalize (pickL (lts L) pr u).1 = T at *
  obtain ⟨M, hM⟩ : ∃ M, T.length = M := ⟨_, rfl⟩
  have HM := Lib.hid hM
  rw [hM] at C2 R2 PL
  have t0 : decide (((n : Nat) : Int) > 60) = false := by simp; omega
  have hM3 : ((M : Nat) : Int) ≤ 60 := by omega
  have hn3 : ((n : Nat) : Int) ≤ 60 := by omega
  have q1 : (er != er) = false := by simp
  clear hA hnc hu0 hu1 hM
  go_enter Try.func3, Try.ntmps3
  go_wp2_with fail
  refine (C1.out _ (Below.refl _ _)).mono ?_
  intro e w1 he
  obtain ⟨v, rfl, ho, hb⟩ := he
  obtain ⟨qa, da, rfl⟩ := own_slice ho
  have B1 := Lib.hid hb
  have OA := Lib.hid ho
  clear hb ho C1
  go_wp2_with fail
  refine (R1.out _ B1.out).mono ?_
  intro e w2 he
  obtain ⟨v, rfl, ho, hb⟩ := he
  obtain ⟨qb, db, rfl⟩ := own_slice ho
  have B2 := Lib.hid (B1.out.trans (hb.mono B1.out.size))
  have OA2 := Lib.hid (own_turn OA.out (Turn.of_below (S := fun _ => False) hb) (fun _ _ hf => hf))
  have OB := Lib.hid ho
  clear hb ho R1 B1 OA
  go_wp2_with fail
  refine (C2.out _ B2.out).mono ?_
  intro e w3 he
  obtain ⟨v, rfl, ho, hb⟩ := he
  obtain ⟨qt, dt, rfl⟩ := own_slice ho
  have B3 := Lib.hid (B2.out.trans (hb.mono B2.out.size))
  have OA3 := Lib.hid (own_turn OA2.out (Turn.of_below (S := fun _ => False) hb) (fun _ _ hf => hf))
  have OB3 := Lib.hid (own_turn OB.out (Turn.of_below (S := fun _ => False) hb) (fun _ _ hf => hf))
  have OT := Lib.hid ho
  clear hb ho C2 B2 OA2 OB
  go_wp2_with fail
  refine (R2.out _ B3.out).mono ?_
  intro e w4 he
  obtain ⟨v, rfl, ho, hb⟩ := he
  obtain ⟨qu, du, rfl⟩ := own_slice ho
  have B4 := Lib.hid (B3.out.trans (hb.mono B3.out.size))
  have OA4 := Lib.hid (own_turn OA3.out (Turn.of_below (S := fun _ => False) hb) (fun _ _ hf => hf))
  have OB4 := Lib.hid (own_turn OB3.out (Turn.of_below (S := fun _ => False) hb) (fun _ _ hf => hf))
  have OT4 := Lib.hid (own_turn OT.out (Turn.of_below (S := fun _ => False) hb) (fun _ _ hf => hf))
  have OU4 := Lib.hid ho
  clear hb ho R2 B3 OA3 OB3 OT
  go_wp2_with fail
  go_loopw [14] (fun i wr => ∃ k : Nat, k ≤ n ∧ i = .int .i64 k ∧ Hid (Below w4.heap.size w4 wr)) (fun i _ => n - (RowKit.intOf i).toNat)
  case atStart => exact ⟨0, Nat.zero_le _, rfl, Lib.hid (Below.refl _ _)⟩
  case round =>
    obtain ⟨k, hk, rfl, BR⟩ := hrel
    by_cases hlt : k < n
    · have hk3 : (k : Int) < (n : Int) := by omega
      obtain ⟨x, hx⟩ : ∃ x, D[k]? = some x := ⟨_, List.getElem?_eq_getElem (by rw [HI.out]; exact hlt)⟩
      obtain ⟨ga, c1, e, _, h1, _⟩ := own_some OA4.out (by omega)
      cases e
      obtain ⟨gb, c2, e, _, h2, _⟩ := own_some OB4.out (by omega)
      cases e
      have a0 := (BR.out.cell (p := ⟨ga, k * 1 + 0, none⟩) h1).trans (row_cell ncells_len OA4.out HI.out hx (i := 0) (by decide))
      have b0 := (BR.out.cell (p := ⟨gb, k * 1 + 0, none⟩) h2).trans (row_cell ncells_len OB4.out HI.out hx (i := 0) (by decide))
      rw [Nat.mul_one, Nat.add_zero] at a0 b0
      have a1 : wr.cell? ⟨ga, k, none⟩ = some (.int .i64 x) := a0
      have b1 : wr.cell? ⟨gb, k, none⟩ = some (.int .i64 x) := b0
      have tx : (x != x) = false := by simp
      clear a0 b0 h1 h2 hx q1
      go_wp2_with fail
      go_quiet (fail)
      go_wp2
      go_roundw
      case rel => exact ⟨k + 1, by omega, by go_num, Lib.hid (below_drewN BR.out _)⟩
      case measure => simp [RowKit.intOf]; omega
    · obtain rfl : k = n := by omega
      clear OA4 OB4 q1
      go_wp2_with fail
      go_loopw [13, 15] (fun s i wx => ∃ j : Nat, j ≤ M ∧ i = .int .i64 j ∧ s = .int .i64 (totT (T.take j)) ∧ Hid (Below w4.heap.size w4 wx)) (fun _ i _ => M - (RowKit.intOf i).toNat)
      case atStart => exact ⟨0, Nat.zero_le _, rfl, by simp [totT], BR⟩
      case round =>
        clear BR
        obtain ⟨j, hj, rfl, rfl, BX⟩ := hrel
        by_cases hlt2 : j < M
        · have hj3 : (j : Int) < (M : Int) := by omega
          obtain ⟨t, ht⟩ : ∃ t, T[j]? = some t := ⟨_, List.getElem?_eq_getElem (by rw [HM.out]; exact hlt2)⟩
          have TN := Lib.hid (tot_next ht)
          have tb := tot_bd (T := T.take j) (fun x hx => PB.out x (List.mem_of_mem_take hx))
          have tl : (T.take j).length ≤ 60 := by rw [List.length_take]; omega
          have t2b := PB.out t (List.mem_of_getElem? ht)
          have tb2 : 0 ≤ totT (T.take j) ∧ totT (T.take j) ≤ 62914560 := by omega
          obtain ⟨ga, c1, e, _, h1, _⟩ := own_some OT4.out (by omega)
          cases e
          obtain ⟨gb, c2, e, _, h2, _⟩ := own_some OU4.out (by omega)
          cases e
          have a0 : w4.cell? ⟨ga, j * 2 + 0, none⟩ = some (.int .i64 t.1) := row_cell tcells_len OT4.out HM.out ht (i := 0) (by decide)
          have a1 : w4.cell? ⟨ga, j * 2 + 1, none⟩ = some (.int .i64 t.2) := row_cell tcells_len OT4.out HM.out ht (i := 1) (by decide)
          have b0 : w4.cell? ⟨gb, j * 2 + 0, none⟩ = some (.int .i64 t.1) := row_cell tcells_len OU4.out HM.out ht (i := 0) (by decide)
          have b1 : w4.cell? ⟨gb, j * 2 + 1, none⟩ = some (.int .i64 t.2) := row_cell tcells_len OU4.out HM.out ht (i := 1) (by decide)
          have e0 : wr.cell? ⟨ga, j * 2, none⟩ = some (.int .i64 t.1) := (BX.out.cell (p := ⟨ga, j * 2, none⟩) h1).trans a0
          have e1 : wr.cell? ⟨ga, j * 2 + 1, none⟩ = some (.int .i64 t.2) := (BX.out.cell (p := ⟨ga, j * 2 + 1, none⟩) h1).trans a1
          have f0 : wr.cell? ⟨gb, j * 2, none⟩ = some (.int .i64 t.1) := (BX.out.cell (p := ⟨gb, j * 2, none⟩) h2).trans b0
          have f1 : wr.cell? ⟨gb, j * 2 + 1, none⟩ = some (.int .i64 t.2) := (BX.out.cell (p := ⟨gb, j * 2 + 1, none⟩) h2).trans b1
          obtain ⟨ta, tu⟩ := t
          simp only at e0 e1 f0 f1 t2b TN
          have q1 : (ta != ta) = false := by simp
          have q2 : (tu != tu) = false := by simp
          clear a0 a1 b0 b1 h1 h2 ht tb tl
          generalize totT (T.take j) = s0 at *
          go_wp2_with fail
          go_quiet (fail)
          go_wp2
          go_roundw
          case rel => exact ⟨j + 1, by omega, by go_num, by rw [TN.out], Lib.hid (below_drewN BX.out _)⟩
          case measure => simp [RowKit.intOf]; omega
        · obtain rfl : j = M := by omega
          have hT : T.take j = T := List.take_of_length_le (by rw [HM.out]; exact Nat.le_refl _)
          rw [hT]
          have HT := Lib.hid (show wr.ownsRow w2.heap.size 34 2 (.slice qt j dt) T.length (T.flatMap tcells) from by
            rw [HM.out]
            exact own_turn OT4.out (Turn.of_below (S := fun _ => False) BX.out) (fun _ _ hf => hf))
          have BW := Lib.hid (B4.out.trans (BX.out.mono B4.out.size))
          obtain ⟨q', c', e, hc, hr⟩ := rw_own tcells_len HT.out
          injection e with e1 e2 e3
          subst e1 e3
          have HR := Lib.hid hr
          have CT := Lib.hid (fun W (hW : Below wr.heap.size wr W) => I.total qt T.length dt T W (hr.keep tcells_len hW) (by rw [HM.out]; omega) hc PB.out)
          rw [HM.out] at CT
          have CN := Lib.hid (fun W => I.total none 0 0 [] W (rw_nil W) (by decide) (Nat.le_refl _) (by simp))
          rw [show totT [] = 0 from rfl] at CN
          generalize totT T = tt at *
          clear hc hr hT e2
          have q1 : (tt == tt) = true := by simp
          go_wp2_with fail
          refine (AL.out _).mono ?_
          rintro e w6 ⟨rfl, hb⟩
          have B6 := Lib.hid (BW.out.trans (hb.mono BW.out.size))
          have D6 := Lib.hid hb
          clear hb AL BW
          go_wp2_with fail
          refine (CT.out _ D6.out).mono ?_
          rintro e w7 ⟨rfl, hb⟩
          have B7 := Lib.hid (B6.out.trans (hb.mono B6.out.size))
          clear hb CT B6 D6
          go_wp2_with fail
          refine (CN.out _).mono ?_
          rintro e w8 ⟨rfl, hb⟩
          have B8 := Lib.hid (B7.out.trans (hb.mono B7.out.size))
          clear hb CN B7
          go_wp2
          go_ret
          exact ⟨rfl, B8.out⟩
end Ff
end Go.Proofs.Ytclpdemhfbjliaa
