/- Walks over package command: the command of bytes. Conditions: the table is as the program lays it; the list reads as bytes. -/
import Derived.Test.YtbahilakfgbgpaaDoorCmPb
import Derived.Test.YtbahilakfgbgpaaDoorOb3
import Derived.BigRegion
namespace Go.Proofs.YtbahilakfgbgpaaDoor
open Go.RowKit

namespace Cm
/-- What package command reads: the kind, how many numbers, these, the command, what is left. -/
def pk (l : List Nat) : Nat := (Oc.rnum (0, l) 1).1
def pm (l : List Nat) : Nat := (cnt (pk l)).toNat
def pv (l : List Nat) (k : Nat) : List Int × (Nat × List Nat) := rd k (Oc.rnum (0, l) 1).2
def pcm (l : List Nat) : Cm := cmOf (pk l) (pv l (pm l)).1 (runOf (pk l) (pv l (pm l)).2).1
def pst (l : List Nat) : Nat × List Nat := (runOf (pk l) (pv l (pm l)).2).2
theorem pk_cons (x : Nat) (r : List Nat) : Oc.rnum (0, x :: r) 1 = (x, (0, r)) := by
  unfold Oc.rnum
  rw [if_neg (by simp), if_neg (by omega), if_neg (by simp)]
  simp [Oc.val, Oc.valo]
theorem dec_p (l : List Nat) : dec l = if Oc.rdone (pst l) ≠ 0 ∨ rightB (pcm l) = false then (cm0, 2) else (pcm l, 0) := by
  cases l with
  | nil => rfl
  | cons x r =>
    have e : ∀ k, pv (x :: r) k = rd k (0, r) := fun k => by unfold pv; rw [pk_cons]
    have e2 : pk (x :: r) = x := by unfold pk; rw [pk_cons]
    by_cases h : cnt x < 0
    · have h1 : rightB (pcm (x :: r)) = false := by
        rw [← Bool.not_eq_true, right_iff]
        intro h2
        have h3 := h2.1
        have h4 : (pcm (x :: r)).kind = x := by unfold pcm; rw [e2]; rfl
        rw [h4] at h3
        omega
      rw [if_pos (.inr h1)]
      show (if cnt x < 0 then (cm0, (2 : Int)) else _) = _
      rw [if_pos h]
    · show (if cnt x < 0 then (cm0, (2 : Int)) else _) = _
      rw [if_neg h]
      unfold pcm pst pm
      rw [e2, e]
theorem pv_next (l : List Nat) (k : Nat) : pv l (k + 1) = ((pv l k).1 ++ [IntKind.i64.wrap ((Oc.rnum (pv l k).2 8).1 : Int)], (Oc.rnum (pv l k).2 8).2) := rfl
theorem pv_len (l : List Nat) (k : Nat) : (pv l k).1.length = k := rd_len k _
theorem pv_left (l : List Nat) : ∀ k, (pv l k).2.2.length ≤ l.length
  | 0 => Oc.rnum_len (0, l) 1
  | k + 1 => Nat.le_trans (Oc.rnum_len _ 8) (pv_left l k)
/-- The numbers that are read, as the array holds them. -/
def nv (v : List Int) (i : Nat) : Int := v.getD i 0
def acells (v : List Int) : Array Value := #[.int .i64 (nv v 0), .int .i64 (nv v 1), .int .i64 (nv v 2), .int .i64 (nv v 3), .int .i64 (nv v 4)]
theorem Tabl.of_cells {w : World} (h : ∀ i : Nat, i < 16 → w.cell? ⟨0, i, none⟩ = some (.int .i64 (cnt i))) : Tabl w := by
  have lt : 0 < w.heap.size := World.block_lt_of_cell? w _ (h 0 (by decide))
  exact ⟨fun w' hb i hi => (hb.cell (p := ⟨0, i, none⟩) lt).trans (h i hi)⟩
theorem Tabl.at_ {w : World} (h : Tabl w) (i : Nat) (hi : i < 16) : w.cell? ⟨0, i, none⟩ = some (.int .i64 (cnt i)) := h.tab w (Below.refl _ _) i hi
theorem Tabl.lt {w : World} (h : Tabl w) : 0 < w.heap.size := World.block_lt_of_cell? w _ (h.at_ 0 (by decide))
theorem Tabl.turn {w w' : World} {S : Nat → Prop} (h : Tabl w) (ht : Turn S w w') (hs : ¬ S 0) : Tabl w' :=
  Tabl.of_cells fun i hi => (World.cell?_of_block (a := ⟨0, i, none⟩) (ht.block _ h.lt hs)).trans (h.at_ i hi)
theorem pr_turn {w w' : World} {g b : Nat} {s : Nat × List Nat} {t : TypeId} {cs : Array Value} (h : Ob.PR w g s) (hb : Lies w b t cs) (hc : NoU8 cs) (ht : Turn (fun k => k = b) w w') (hne : g ≠ b) : Ob.PR w' g s :=
  h.turn ht (fun _ hk => ⟨_, _, hk ▸ hb, hc⟩) hne
set_option maxRecDepth 100000 in
set_option maxHeartbeats 16000000 in
theorem pread_any (g : Nat) (l : List Nat) (w : World) (hr : Tabl w) (hg : 0 ≠ g) (hP : Ob.PR w g (0, l)) (hl : l.length ≤ 1000000) :
    Calls Tryd.prog 28 #[.pointer (some ⟨g, 0, none⟩)] w fun e w' => (∃ q n d, e = .returned (cval ⟨pcm l, q, n, d⟩) ∧ n ≤ d ∧ At w' q n (pcm l).bytes) ∧ Ob.PR w' g (pst l) ∧ Turn (fun k => k = g) w w' := by
  have hlt := hP.lt
  have h256 := Oc.rnum_lt (s := (0, l)) hP.lt256 1 1 rfl
  have HP0 := Lib.hid (show pv l 0 = ([], (Oc.rnum (0, l) 1).2) from rfl)
  have HPN := Lib.hid (pv_next l)
  have HPL := Lib.hid (pv_len l)
  have HPF := Lib.hid (pv_left l)
  have HC := Lib.hid (show pcm l = cmOf (pk l) (pv l (pm l)).1 (runOf (pk l) (pv l (pm l)).2).1 from rfl)
  have HS := Lib.hid (show pst l = (runOf (pk l) (pv l (pm l)).2).2 from rfl)
  have HM := Lib.hid (show pm l = (cnt (pk l)).toNat from rfl)
  rw [HC.out, HS.out]
  clear HC HS
  have B1 := Lib.hid (alloc_below w (.cells #[.int .i64 0, .int .i64 0, .int .i64 0, .int .i64 0, .int .i64 0, .int .i64 0, .slice none 0 0] 25))
  have X1 := Lib.hid (Lies.new w 25 #[.int .i64 0, .int .i64 0, .int .i64 0, .int .i64 0, .int .i64 0, .int .i64 0, .slice none 0 0])
  obtain ⟨w1, hw1⟩ : ∃ w1, w.alloc (.cells #[.int .i64 0, .int .i64 0, .int .i64 0, .int .i64 0, .int .i64 0, .int .i64 0, .slice none 0 0] 25) = w1 := ⟨_, rfl⟩
  rw [hw1] at B1 X1
  have hs1 : w1.heap.size = w.heap.size + 1 := by rw [← hw1]; simp
  have T1 := Lib.hid (Turn.of_below (S := fun k => k = g) B1.out)
  have R1 := Lib.hid (hr.on B1.out)
  have GT := Lib.hid (Ob.get_any g (0, l) 1 w1 (hP.below B1.out))
  have HG := Lib.hid hg
  have GL := Lib.hid hlt
  have HL := Lib.hid hl
  clear hr hg hP hlt hl B1
  unfold pk at HM
  obtain ⟨x, hx⟩ : ∃ x : Nat, (Oc.rnum (0, l) 1).1 = x := ⟨_, rfl⟩
  rw [hx] at GT h256 HM
  have hpk : pk l = x := hx
  rw [hpk]
  have hx3 : ((x : Nat) : Int) < 256 := by omega
  have CB := (cnt_bd (x : Int)).2
  obtain ⟨m, hm⟩ : ∃ m : Nat, pm l = m := ⟨_, rfl⟩
  rw [hm] at HM ⊢
  obtain ⟨rr, hrr⟩ : ∃ rr, runOf x (pv l m).2 = rr := ⟨_, rfl⟩
  rw [hrr]
  have HRR := Lib.hid hrr
  have hm5 : m ≤ 5 := by have := HM.out; omega
  have HM2 := Lib.hid (show ∀ k : Nat, k < m ↔ ((k : Nat) : Int) < cnt (x : Int) from fun k => by have := HM.out; omega)
  have N := Lib.hid (fun W hW => pnum_any (x : Int) W hW)
  have u1 : wrap64 ((x : Nat) : Int) = (x : Int) := by rw [← IntWalk.i64_left, IntWalk.i64_in _ (by omega)]
  generalize hcn : cnt (x : Int) = cn at *
  have HCN := Lib.hid hcn
  have HS1 := Lib.hid hs1
  clear hx hpk hm hrr CB hcn h256 hs1 HM
  go_enter Tryd.func28, Tryd.ntmps28
  go_wp2_with fail
  refine GT.out.mono ?_
  rintro e w2 ⟨rfl, hp2, ht2⟩
  have T2 := Lib.hid (T1.out.trans ht2 (fun _ hi => .inl hi))
  have R2 := Lib.hid (R1.out.turn ht2 HG.out)
  have X2 := Lib.hid (X1.out.turn ht2 (Nat.ne_of_gt GL.out))
  have hz2 := ht2.size
  have hB3 := alloc_below w2 (.cells #[.int .i64 ((x : Nat) : Int), .int .i64 0, .int .i64 0, .int .i64 0, .int .i64 0, .int .i64 0, .slice none 0 0] 25)
  have C3 := Lib.hid (Lies.new w2 25 #[.int .i64 ((x : Nat) : Int), .int .i64 0, .int .i64 0, .int .i64 0, .int .i64 0, .int .i64 0, .slice none 0 0])
  have T3 := Lib.hid (T2.out.trans (Turn.of_below (S := fun k => k = g) hB3) (fun _ hi => .inl hi))
  have R3 := Lib.hid (R2.out.on hB3)
  have X3 := Lib.hid (X2.out.below hB3 X2.out.lt)
  have P3 := Lib.hid (hp2.below hB3)
  have hB4 := alloc_below (w2.alloc (.cells #[.int .i64 ((x : Nat) : Int), .int .i64 0, .int .i64 0, .int .i64 0, .int .i64 0, .int .i64 0, .slice none 0 0] 25)) (.cells #[.int .i64 0, .int .i64 0, .int .i64 0, .int .i64 0, .int .i64 0] 42)
  have D4 := Lib.hid (show Lies ((w2.alloc (.cells #[.int .i64 ((x : Nat) : Int), .int .i64 0, .int .i64 0, .int .i64 0, .int .i64 0, .int .i64 0, .slice none 0 0] 25)).alloc (.cells #[.int .i64 0, .int .i64 0, .int .i64 0, .int .i64 0, .int .i64 0] 42)) (w2.heap.size + 1) 42 (acells []) from by
    have h := Lies.new (w2.alloc (.cells #[.int .i64 ((x : Nat) : Int), .int .i64 0, .int .i64 0, .int .i64 0, .int .i64 0, .int .i64 0, .slice none 0 0] 25)) 42 #[.int .i64 0, .int .i64 0, .int .i64 0, .int .i64 0, .int .i64 0]
    rw [show (w2.alloc (.cells #[.int .i64 ((x : Nat) : Int), .int .i64 0, .int .i64 0, .int .i64 0, .int .i64 0, .int .i64 0, .slice none 0 0] 25)).heap.size = w2.heap.size + 1 by simp] at h
    exact h)
  have C4 := Lib.hid (C3.out.below hB4 C3.out.lt)
  have T4 := Lib.hid (T3.out.trans (Turn.of_below (S := fun k => k = g) hB4) (fun _ hi => .inl hi))
  have R4 := Lib.hid (R3.out.on hB4)
  have X4 := Lib.hid (X3.out.below hB4 X3.out.lt)
  have P4 := Lib.hid (P3.out.below hB4)
  have hs1 := HS1.out
  have hg2 := GL.out
  have HNE := Lib.hid (show (w.heap.size ≠ w2.heap.size ∧ w.heap.size ≠ (w2.heap.size + 1) ∧ w.heap.size ≠ g) ∧ (w2.heap.size ≠ (w2.heap.size + 1) ∧ w2.heap.size ≠ g ∧ (w2.heap.size + 1) ≠ g) ∧ w.heap.size ≤ w2.heap.size ∧ w.heap.size ≤ (w2.heap.size + 1) by omega)
  clear hs1 hg2 hz2 hB3 hB4 hp2 ht2 GT T1 R1 X1 T2 R2 X2 C3 T3 R3 X3 P3 HS1
  have c0 : ((w2.alloc (.cells #[.int .i64 ((x : Nat) : Int), .int .i64 0, .int .i64 0, .int .i64 0, .int .i64 0, .int .i64 0, .slice none 0 0] 25)).alloc (.cells #[.int .i64 0, .int .i64 0, .int .i64 0, .int .i64 0, .int .i64 0] 42)).cell? ⟨w2.heap.size, 0, none⟩ = some (.int .i64 ((x : Nat) : Int)) := C4.out.cell 0
  go_wp2_with fail
  refine (N.out _ R4.out).mono ?_
  rintro e w5 ⟨rfl, hb⟩
  have D5 := Lib.hid (D4.out.below hb D4.out.lt)
  have C5 := Lib.hid (C4.out.below hb C4.out.lt)
  have X5 := Lib.hid (X4.out.below hb X4.out.lt)
  have P5 := Lib.hid (P4.out.below hb)
  have T5 := Lib.hid (T4.out.trans (Turn.of_below (S := fun k => k = g) hb) (fun _ hi => .inl hi))
  clear c0 hb D4 C4 X4 P4 T4 R4 N hw1
  go_wp2_with fail
  go_loopw [13] (fun i wr => ∃ k : Nat, k ≤ m ∧ i = .int .i64 ((k : Nat) : Int) ∧ Hid (Lies wr w.heap.size 25 #[.int .i64 0, .int .i64 0, .int .i64 0, .int .i64 0, .int .i64 0, .int .i64 0, .slice none 0 0]) ∧ Hid (Lies wr w2.heap.size 25 #[.int .i64 ((x : Nat) : Int), .int .i64 0, .int .i64 0, .int .i64 0, .int .i64 0, .int .i64 0, .slice none 0 0]) ∧ Hid (Lies wr (w2.heap.size + 1) 42 (acells (pv l k).1)) ∧ Hid (Ob.PR wr g (pv l k).2) ∧ Hid (Turn (fun k => k = g) w wr)) (fun i _ => m - (RowKit.intOf i).toNat)
  case atStart => exact ⟨0, Nat.zero_le _, rfl, X5, C5, Lib.hid (by rw [HP0.out]; exact D5.out), Lib.hid (by rw [HP0.out]; exact P5.out), T5⟩
  case round =>
    clear X5 C5 D5 P5 T5 HP0
    obtain ⟨k, hkm, rfl, XR, CR, DR, PR, TR⟩ := hrel
    have hk5 : ((k : Nat) : Int) ≤ 5 := by omega
    by_cases hlt : k < m
    · have t1 : decide (((k : Nat) : Int) < cn) = true := by simpa using (HM2.out k).1 hlt
      have GI := Lib.hid (Ob.gint_any g (pv l k).2 wr PR.out)
      have HN := Lib.hid (HPN.out k)
      have HLk := Lib.hid (HPL.out k)
      rw [← IntWalk.i64_left] at GI
      generalize hz : IntKind.i64.wrap (((Oc.rnum (pv l k).2 8).1 : Nat) : Int) = z at *
      generalize hV : pv l k = V at *
      obtain ⟨vs, st⟩ := V
      simp only at HN HLk GI DR PR
      have HV := Lib.hid hV
      have HZ := Lib.hid hz
      clear hV hz
      go_wp2_with fail
      refine GI.out.mono ?_
      rintro e w6 ⟨rfl, hp6, ht6⟩
      have D6 := Lib.hid (DR.out.turn ht6 HNE.out.2.1.2.2)
      have C6 := Lib.hid (CR.out.turn ht6 HNE.out.2.1.2.1)
      have X6 := Lib.hid (XR.out.turn ht6 HNE.out.1.2.2)
      have T6 := Lib.hid (TR.out.trans ht6 (fun _ hi => .inl hi))
      have P6 := Lib.hid hp6
      clear hp6 ht6 DR CR XR TR PR GI
      have hk6 : k = 0 ∨ k = 1 ∨ k = 2 ∨ k = 3 ∨ k = 4 := by omega
      have hlt2 := Lib.hid hlt
      have HKM := Lib.hid hm5
      clear hkm hk5 hlt t1
      rcases hk6 with rfl | rfl | rfl | rfl | rfl
      · have d0 : w6.cell? ⟨(w2.heap.size + 1), 0, none⟩ = some (.int .i64 (nv vs 0)) := D6.out.cell 0
        have f0 := D6.out.frozen 0
        have TN := (Turn.refl (fun i => i = (w2.heap.size + 1)) w6).setCell (p := ⟨(w2.heap.size + 1), 0, none⟩) (.inl rfl) (.int .i64 z)
        have AE : (acells vs).setIfInBounds 0 (.int .i64 z) = acells (pv l (0 + 1)).1 := by
          rw [HN.out]
          unfold acells nv
          simp only [getD_snoc, HLk.out]
          rfl
        have DN := Lib.hid (show Lies (w6.setCell ⟨(w2.heap.size + 1), 0, none⟩ (.int .i64 z)) (w2.heap.size + 1) 42 (acells (pv l (0 + 1)).1) from AE ▸ D6.out.set_ 0 (.int .i64 z))
        have CN := Lib.hid (C6.out.turn TN HNE.out.2.1.1)
        have XN := Lib.hid (X6.out.turn TN HNE.out.1.2.1)
        have PN := Lib.hid (show Ob.PR (w6.setCell ⟨(w2.heap.size + 1), 0, none⟩ (.int .i64 z)) g (pv l (0 + 1)).2 from by
          rw [HN.out]
          exact pr_turn P6.out D6.out (noU8_5 _ _ _ _ _) TN HNE.out.2.1.2.2.symm)
        have WN := Lib.hid (T6.out.setCell (p := ⟨(w2.heap.size + 1), 0, none⟩) (.inr HNE.out.2.2.2) (.int .i64 z))
        clear TN AE D6 C6 X6 P6 T6 HN HLk HV HZ
        go_wp2
        go_roundw
        case rel => exact ⟨0 + 1, hlt2.out, by go_num, XN, CN, DN, PN, WN⟩
        case measure => have h1 := hlt2.out; simp [RowKit.intOf]; omega
      · have d0 : w6.cell? ⟨(w2.heap.size + 1), 1, none⟩ = some (.int .i64 (nv vs 1)) := D6.out.cell 1
        have f0 := D6.out.frozen 1
        have TN := (Turn.refl (fun i => i = (w2.heap.size + 1)) w6).setCell (p := ⟨(w2.heap.size + 1), 1, none⟩) (.inl rfl) (.int .i64 z)
        have AE : (acells vs).setIfInBounds 1 (.int .i64 z) = acells (pv l (1 + 1)).1 := by
          rw [HN.out]
          unfold acells nv
          simp only [getD_snoc, HLk.out]
          rfl
        have DN := Lib.hid (show Lies (w6.setCell ⟨(w2.heap.size + 1), 1, none⟩ (.int .i64 z)) (w2.heap.size + 1) 42 (acells (pv l (1 + 1)).1) from AE ▸ D6.out.set_ 1 (.int .i64 z))
        have CN := Lib.hid (C6.out.turn TN HNE.out.2.1.1)
        have XN := Lib.hid (X6.out.turn TN HNE.out.1.2.1)
        have PN := Lib.hid (show Ob.PR (w6.setCell ⟨(w2.heap.size + 1), 1, none⟩ (.int .i64 z)) g (pv l (1 + 1)).2 from by
          rw [HN.out]
          exact pr_turn P6.out D6.out (noU8_5 _ _ _ _ _) TN HNE.out.2.1.2.2.symm)
        have WN := Lib.hid (T6.out.setCell (p := ⟨(w2.heap.size + 1), 1, none⟩) (.inr HNE.out.2.2.2) (.int .i64 z))
        clear TN AE D6 C6 X6 P6 T6 HN HLk HV HZ
        go_wp2
        go_roundw
        case rel => exact ⟨1 + 1, hlt2.out, by go_num, XN, CN, DN, PN, WN⟩
        case measure => have h1 := hlt2.out; simp [RowKit.intOf]; omega
      · have d0 : w6.cell? ⟨(w2.heap.size + 1), 2, none⟩ = some (.int .i64 (nv vs 2)) := D6.out.cell 2
        have f0 := D6.out.frozen 2
        have TN := (Turn.refl (fun i => i = (w2.heap.size + 1)) w6).setCell (p := ⟨(w2.heap.size + 1), 2, none⟩) (.inl rfl) (.int .i64 z)
        have AE : (acells vs).setIfInBounds 2 (.int .i64 z) = acells (pv l (2 + 1)).1 := by
          rw [HN.out]
          unfold acells nv
          simp only [getD_snoc, HLk.out]
          rfl
        have DN := Lib.hid (show Lies (w6.setCell ⟨(w2.heap.size + 1), 2, none⟩ (.int .i64 z)) (w2.heap.size + 1) 42 (acells (pv l (2 + 1)).1) from AE ▸ D6.out.set_ 2 (.int .i64 z))
        have CN := Lib.hid (C6.out.turn TN HNE.out.2.1.1)
        have XN := Lib.hid (X6.out.turn TN HNE.out.1.2.1)
        have PN := Lib.hid (show Ob.PR (w6.setCell ⟨(w2.heap.size + 1), 2, none⟩ (.int .i64 z)) g (pv l (2 + 1)).2 from by
          rw [HN.out]
          exact pr_turn P6.out D6.out (noU8_5 _ _ _ _ _) TN HNE.out.2.1.2.2.symm)
        have WN := Lib.hid (T6.out.setCell (p := ⟨(w2.heap.size + 1), 2, none⟩) (.inr HNE.out.2.2.2) (.int .i64 z))
        clear TN AE D6 C6 X6 P6 T6 HN HLk HV HZ
        go_wp2
        go_roundw
        case rel => exact ⟨2 + 1, hlt2.out, by go_num, XN, CN, DN, PN, WN⟩
        case measure => have h1 := hlt2.out; simp [RowKit.intOf]; omega
      · have d0 : w6.cell? ⟨(w2.heap.size + 1), 3, none⟩ = some (.int .i64 (nv vs 3)) := D6.out.cell 3
        have f0 := D6.out.frozen 3
        have TN := (Turn.refl (fun i => i = (w2.heap.size + 1)) w6).setCell (p := ⟨(w2.heap.size + 1), 3, none⟩) (.inl rfl) (.int .i64 z)
        have AE : (acells vs).setIfInBounds 3 (.int .i64 z) = acells (pv l (3 + 1)).1 := by
          rw [HN.out]
          unfold acells nv
          simp only [getD_snoc, HLk.out]
          rfl
        have DN := Lib.hid (show Lies (w6.setCell ⟨(w2.heap.size + 1), 3, none⟩ (.int .i64 z)) (w2.heap.size + 1) 42 (acells (pv l (3 + 1)).1) from AE ▸ D6.out.set_ 3 (.int .i64 z))
        have CN := Lib.hid (C6.out.turn TN HNE.out.2.1.1)
        have XN := Lib.hid (X6.out.turn TN HNE.out.1.2.1)
        have PN := Lib.hid (show Ob.PR (w6.setCell ⟨(w2.heap.size + 1), 3, none⟩ (.int .i64 z)) g (pv l (3 + 1)).2 from by
          rw [HN.out]
          exact pr_turn P6.out D6.out (noU8_5 _ _ _ _ _) TN HNE.out.2.1.2.2.symm)
        have WN := Lib.hid (T6.out.setCell (p := ⟨(w2.heap.size + 1), 3, none⟩) (.inr HNE.out.2.2.2) (.int .i64 z))
        clear TN AE D6 C6 X6 P6 T6 HN HLk HV HZ
        go_wp2
        go_roundw
        case rel => exact ⟨3 + 1, hlt2.out, by go_num, XN, CN, DN, PN, WN⟩
        case measure => have h1 := hlt2.out; simp [RowKit.intOf]; omega
      · have d0 : w6.cell? ⟨(w2.heap.size + 1), 4, none⟩ = some (.int .i64 (nv vs 4)) := D6.out.cell 4
        have f0 := D6.out.frozen 4
        have TN := (Turn.refl (fun i => i = (w2.heap.size + 1)) w6).setCell (p := ⟨(w2.heap.size + 1), 4, none⟩) (.inl rfl) (.int .i64 z)
        have AE : (acells vs).setIfInBounds 4 (.int .i64 z) = acells (pv l (4 + 1)).1 := by
          rw [HN.out]
          unfold acells nv
          simp only [getD_snoc, HLk.out]
          rfl
        have DN := Lib.hid (show Lies (w6.setCell ⟨(w2.heap.size + 1), 4, none⟩ (.int .i64 z)) (w2.heap.size + 1) 42 (acells (pv l (4 + 1)).1) from AE ▸ D6.out.set_ 4 (.int .i64 z))
        have CN := Lib.hid (C6.out.turn TN HNE.out.2.1.1)
        have XN := Lib.hid (X6.out.turn TN HNE.out.1.2.1)
        have PN := Lib.hid (show Ob.PR (w6.setCell ⟨(w2.heap.size + 1), 4, none⟩ (.int .i64 z)) g (pv l (4 + 1)).2 from by
          rw [HN.out]
          exact pr_turn P6.out D6.out (noU8_5 _ _ _ _ _) TN HNE.out.2.1.2.2.symm)
        have WN := Lib.hid (T6.out.setCell (p := ⟨(w2.heap.size + 1), 4, none⟩) (.inr HNE.out.2.2.2) (.int .i64 z))
        clear TN AE D6 C6 X6 P6 T6 HN HLk HV HZ
        go_wp2
        go_roundw
        case rel => exact ⟨4 + 1, hlt2.out, by go_num, XN, CN, DN, PN, WN⟩
        case measure => have h1 := hlt2.out; simp [RowKit.intOf]; omega
    · obtain rfl : k = m := by omega
      have t1 : decide (((k : Nat) : Int) < cn) = false := by
        have := HM2.out k
        simp only [decide_eq_false_iff_not]
        omega
      have hb : Below wr.heap.size wr wr.drew := ⟨rfl, rfl, rfl, Nat.le_refl _, fun _ _ => rfl⟩
      have D0 := Lib.hid (DR.out.below hb DR.out.lt)
      have C0 := Lib.hid (show Lies wr.drew w2.heap.size 25 #[.int .i64 ((x : Nat) : Int), .int .i64 0, .int .i64 0, .int .i64 0, .int .i64 0, .int .i64 0, .slice none 0 0] from CR.out.below hb CR.out.lt)
      have X0 := Lib.hid (XR.out.below hb XR.out.lt)
      have P0 := Lib.hid (PR.out.below hb)
      have T0 := Lib.hid (TR.out.trans (Turn.of_below (S := fun k => k = g) hb) (fun _ hi => .inl hi))
      clear hb DR CR XR PR TR hlt hkm
      go_wp2_with fail
      clear t1
      have d0 : wr.drew.cell? ⟨(w2.heap.size + 1), 0, none⟩ = some (.int .i64 (nv (pv l k).1 0)) := D0.out.cell 0
      have d1 : wr.drew.cell? ⟨(w2.heap.size + 1), 1, none⟩ = some (.int .i64 (nv (pv l k).1 1)) := D0.out.cell 1
      have d2 : wr.drew.cell? ⟨(w2.heap.size + 1), 2, none⟩ = some (.int .i64 (nv (pv l k).1 2)) := D0.out.cell 2
      have d3 : wr.drew.cell? ⟨(w2.heap.size + 1), 3, none⟩ = some (.int .i64 (nv (pv l k).1 3)) := D0.out.cell 3
      have d4 : wr.drew.cell? ⟨(w2.heap.size + 1), 4, none⟩ = some (.int .i64 (nv (pv l k).1 4)) := D0.out.cell 4
      refine region_T 20 (fun w' => w'.cell? ⟨(w2.heap.size + 1), 0, none⟩ = some (.int .i64 (nv (pv l k).1 0)) ∧ w'.cell? ⟨(w2.heap.size + 1), 1, none⟩ = some (.int .i64 (nv (pv l k).1 1)) ∧ w'.cell? ⟨(w2.heap.size + 1), 2, none⟩ = some (.int .i64 (nv (pv l k).1 2)) ∧ w'.cell? ⟨(w2.heap.size + 1), 3, none⟩ = some (.int .i64 (nv (pv l k).1 3)) ∧ w'.cell? ⟨(w2.heap.size + 1), 4, none⟩ = some (.int .i64 (nv (pv l k).1 4))) (by kernel_rfl) ⟨d0, d1, d2, d3, d4⟩ (fun hS => ?_)
      clear d0 d1 d2 d3 d4
      generalize wr.drew = v0 at *
      refine tk 0 ?_
      refine tk 1 ?_
      refine tk 2 ?_
      refine tk 3 ?_
      refine tk 4 ?_
      refine tk 5 ?_
      refine tk 6 ?_
      refine tk 7 ?_
      refine tk 8 ?_
      refine tk 9 ?_
      refine tk 10 ?_
      refine oneL (i := 11) (by kernel_rfl) rfl (fun K hK => ?_)
      have c1 : v0.cell? ⟨w2.heap.size, 1, none⟩ = some (.int .i64 0) := C0.out.cell 1
      have f1 := C0.out.frozen 1
      clear hS
      go_simp
      clear c1 f1
      have TN := (Turn.refl (fun i => i = w2.heap.size) v0).setCell (p := ⟨w2.heap.size, 1, none⟩) (.inl rfl) (.int .i64 (nv (pv l k).1 0))
      have D1 := Lib.hid (D0.out.turn TN HNE.out.2.1.1.symm)
      have X1 := Lib.hid (X0.out.turn TN HNE.out.1.1)
      have P1 := Lib.hid (pr_turn P0.out C0.out (noU8_7 _ _ _ _ _ _ _ _ _) TN HNE.out.2.1.2.1.symm)
      have T1 := Lib.hid (T0.out.setCell (p := ⟨w2.heap.size, 1, none⟩) (.inr HNE.out.2.2.1) (.int .i64 (nv (pv l k).1 0)))
      have C1 := Lib.hid (show Lies (v0.setCell ⟨w2.heap.size, 1, none⟩ (.int .i64 (nv (pv l k).1 0))) w2.heap.size 25 #[.int .i64 ((x : Nat) : Int), .int .i64 (nv (pv l k).1 0), .int .i64 0, .int .i64 0, .int .i64 0, .int .i64 0, .slice none 0 0] from C0.out.set_ 1 (.int .i64 (nv (pv l k).1 0)))
      clear TN D0 X0 P0 T0 C0
      generalize v0.setCell ⟨w2.heap.size, 1, none⟩ (.int .i64 (nv (pv l k).1 0)) = v1 at *
      have d0 : v1.cell? ⟨(w2.heap.size + 1), 0, none⟩ = some (.int .i64 (nv (pv l k).1 0)) := D1.out.cell 0
      have d1 : v1.cell? ⟨(w2.heap.size + 1), 1, none⟩ = some (.int .i64 (nv (pv l k).1 1)) := D1.out.cell 1
      have d2 : v1.cell? ⟨(w2.heap.size + 1), 2, none⟩ = some (.int .i64 (nv (pv l k).1 2)) := D1.out.cell 2
      have d3 : v1.cell? ⟨(w2.heap.size + 1), 3, none⟩ = some (.int .i64 (nv (pv l k).1 3)) := D1.out.cell 3
      have d4 : v1.cell? ⟨(w2.heap.size + 1), 4, none⟩ = some (.int .i64 (nv (pv l k).1 4)) := D1.out.cell 4
      refine hK.out _ _ (fun _ => ⟨d0, d1, d2, d3, d4⟩) ?_
      clear hK K
      try simp only [Act.put, List.setIfInBounds_toArray, List.set_cons_zero, List.set_cons_succ]
      have hS := And.intro d0 (And.intro d1 (And.intro d2 (And.intro d3 d4)))
      clear d0 d1 d2 d3 d4
      refine tk 12 ?_
      refine oneL (i := 13) (by kernel_rfl) rfl (fun K hK => ?_)
      have c2 : v1.cell? ⟨w2.heap.size, 2, none⟩ = some (.int .i64 0) := C1.out.cell 2
      have f2 := C1.out.frozen 2
      clear hS
      go_simp
      clear c2 f2
      have TN := (Turn.refl (fun i => i = w2.heap.size) v1).setCell (p := ⟨w2.heap.size, 2, none⟩) (.inl rfl) (.int .i64 (nv (pv l k).1 1))
      have D2 := Lib.hid (D1.out.turn TN HNE.out.2.1.1.symm)
      have X2 := Lib.hid (X1.out.turn TN HNE.out.1.1)
      have P2 := Lib.hid (pr_turn P1.out C1.out (noU8_7 _ _ _ _ _ _ _ _ _) TN HNE.out.2.1.2.1.symm)
      have T2 := Lib.hid (T1.out.setCell (p := ⟨w2.heap.size, 2, none⟩) (.inr HNE.out.2.2.1) (.int .i64 (nv (pv l k).1 1)))
      have C2 := Lib.hid (show Lies (v1.setCell ⟨w2.heap.size, 2, none⟩ (.int .i64 (nv (pv l k).1 1))) w2.heap.size 25 #[.int .i64 ((x : Nat) : Int), .int .i64 (nv (pv l k).1 0), .int .i64 (nv (pv l k).1 1), .int .i64 0, .int .i64 0, .int .i64 0, .slice none 0 0] from C1.out.set_ 2 (.int .i64 (nv (pv l k).1 1)))
      clear TN D1 X1 P1 T1 C1
      generalize v1.setCell ⟨w2.heap.size, 2, none⟩ (.int .i64 (nv (pv l k).1 1)) = v2 at *
      have d0 : v2.cell? ⟨(w2.heap.size + 1), 0, none⟩ = some (.int .i64 (nv (pv l k).1 0)) := D2.out.cell 0
      have d1 : v2.cell? ⟨(w2.heap.size + 1), 1, none⟩ = some (.int .i64 (nv (pv l k).1 1)) := D2.out.cell 1
      have d2 : v2.cell? ⟨(w2.heap.size + 1), 2, none⟩ = some (.int .i64 (nv (pv l k).1 2)) := D2.out.cell 2
      have d3 : v2.cell? ⟨(w2.heap.size + 1), 3, none⟩ = some (.int .i64 (nv (pv l k).1 3)) := D2.out.cell 3
      have d4 : v2.cell? ⟨(w2.heap.size + 1), 4, none⟩ = some (.int .i64 (nv (pv l k).1 4)) := D2.out.cell 4
      refine hK.out _ _ (fun _ => ⟨d0, d1, d2, d3, d4⟩) ?_
      clear hK K
      try simp only [Act.put, List.setIfInBounds_toArray, List.set_cons_zero, List.set_cons_succ]
      have hS := And.intro d0 (And.intro d1 (And.intro d2 (And.intro d3 d4)))
      clear d0 d1 d2 d3 d4
      refine tk 14 ?_
      refine oneL (i := 15) (by kernel_rfl) rfl (fun K hK => ?_)
      have c3 : v2.cell? ⟨w2.heap.size, 3, none⟩ = some (.int .i64 0) := C2.out.cell 3
      have f3 := C2.out.frozen 3
      clear hS
      go_simp
      clear c3 f3
      have TN := (Turn.refl (fun i => i = w2.heap.size) v2).setCell (p := ⟨w2.heap.size, 3, none⟩) (.inl rfl) (.int .i64 (nv (pv l k).1 2))
      have D3 := Lib.hid (D2.out.turn TN HNE.out.2.1.1.symm)
      have X3 := Lib.hid (X2.out.turn TN HNE.out.1.1)
      have P3 := Lib.hid (pr_turn P2.out C2.out (noU8_7 _ _ _ _ _ _ _ _ _) TN HNE.out.2.1.2.1.symm)
      have T3 := Lib.hid (T2.out.setCell (p := ⟨w2.heap.size, 3, none⟩) (.inr HNE.out.2.2.1) (.int .i64 (nv (pv l k).1 2)))
      have C3 := Lib.hid (show Lies (v2.setCell ⟨w2.heap.size, 3, none⟩ (.int .i64 (nv (pv l k).1 2))) w2.heap.size 25 #[.int .i64 ((x : Nat) : Int), .int .i64 (nv (pv l k).1 0), .int .i64 (nv (pv l k).1 1), .int .i64 (nv (pv l k).1 2), .int .i64 0, .int .i64 0, .slice none 0 0] from C2.out.set_ 3 (.int .i64 (nv (pv l k).1 2)))
      clear TN D2 X2 P2 T2 C2
      generalize v2.setCell ⟨w2.heap.size, 3, none⟩ (.int .i64 (nv (pv l k).1 2)) = v3 at *
      have d0 : v3.cell? ⟨(w2.heap.size + 1), 0, none⟩ = some (.int .i64 (nv (pv l k).1 0)) := D3.out.cell 0
      have d1 : v3.cell? ⟨(w2.heap.size + 1), 1, none⟩ = some (.int .i64 (nv (pv l k).1 1)) := D3.out.cell 1
      have d2 : v3.cell? ⟨(w2.heap.size + 1), 2, none⟩ = some (.int .i64 (nv (pv l k).1 2)) := D3.out.cell 2
      have d3 : v3.cell? ⟨(w2.heap.size + 1), 3, none⟩ = some (.int .i64 (nv (pv l k).1 3)) := D3.out.cell 3
      have d4 : v3.cell? ⟨(w2.heap.size + 1), 4, none⟩ = some (.int .i64 (nv (pv l k).1 4)) := D3.out.cell 4
      refine hK.out _ _ (fun _ => ⟨d0, d1, d2, d3, d4⟩) ?_
      clear hK K
      try simp only [Act.put, List.setIfInBounds_toArray, List.set_cons_zero, List.set_cons_succ]
      have hS := And.intro d0 (And.intro d1 (And.intro d2 (And.intro d3 d4)))
      clear d0 d1 d2 d3 d4
      refine tk 16 ?_
      refine oneL (i := 17) (by kernel_rfl) rfl (fun K hK => ?_)
      have c4 : v3.cell? ⟨w2.heap.size, 4, none⟩ = some (.int .i64 0) := C3.out.cell 4
      have f4 := C3.out.frozen 4
      clear hS
      go_simp
      clear c4 f4
      have TN := (Turn.refl (fun i => i = w2.heap.size) v3).setCell (p := ⟨w2.heap.size, 4, none⟩) (.inl rfl) (.int .i64 (nv (pv l k).1 3))
      have D4 := Lib.hid (D3.out.turn TN HNE.out.2.1.1.symm)
      have X4 := Lib.hid (X3.out.turn TN HNE.out.1.1)
      have P4 := Lib.hid (pr_turn P3.out C3.out (noU8_7 _ _ _ _ _ _ _ _ _) TN HNE.out.2.1.2.1.symm)
      have T4 := Lib.hid (T3.out.setCell (p := ⟨w2.heap.size, 4, none⟩) (.inr HNE.out.2.2.1) (.int .i64 (nv (pv l k).1 3)))
      have C4 := Lib.hid (show Lies (v3.setCell ⟨w2.heap.size, 4, none⟩ (.int .i64 (nv (pv l k).1 3))) w2.heap.size 25 #[.int .i64 ((x : Nat) : Int), .int .i64 (nv (pv l k).1 0), .int .i64 (nv (pv l k).1 1), .int .i64 (nv (pv l k).1 2), .int .i64 (nv (pv l k).1 3), .int .i64 0, .slice none 0 0] from C3.out.set_ 4 (.int .i64 (nv (pv l k).1 3)))
      clear TN D3 X3 P3 T3 C3
      generalize v3.setCell ⟨w2.heap.size, 4, none⟩ (.int .i64 (nv (pv l k).1 3)) = v4 at *
      have d0 : v4.cell? ⟨(w2.heap.size + 1), 0, none⟩ = some (.int .i64 (nv (pv l k).1 0)) := D4.out.cell 0
      have d1 : v4.cell? ⟨(w2.heap.size + 1), 1, none⟩ = some (.int .i64 (nv (pv l k).1 1)) := D4.out.cell 1
      have d2 : v4.cell? ⟨(w2.heap.size + 1), 2, none⟩ = some (.int .i64 (nv (pv l k).1 2)) := D4.out.cell 2
      have d3 : v4.cell? ⟨(w2.heap.size + 1), 3, none⟩ = some (.int .i64 (nv (pv l k).1 3)) := D4.out.cell 3
      have d4 : v4.cell? ⟨(w2.heap.size + 1), 4, none⟩ = some (.int .i64 (nv (pv l k).1 4)) := D4.out.cell 4
      refine hK.out _ _ (fun _ => ⟨d0, d1, d2, d3, d4⟩) ?_
      clear hK K
      try simp only [Act.put, List.setIfInBounds_toArray, List.set_cons_zero, List.set_cons_succ]
      have hS := And.intro d0 (And.intro d1 (And.intro d2 (And.intro d3 d4)))
      clear d0 d1 d2 d3 d4
      refine tk 18 ?_
      refine oneL (i := 19) (by kernel_rfl) rfl (fun K hK => ?_)
      have c5 : v4.cell? ⟨w2.heap.size, 5, none⟩ = some (.int .i64 0) := C4.out.cell 5
      have f5 := C4.out.frozen 5
      clear hS
      go_simp
      clear c5 f5
      have TN := (Turn.refl (fun i => i = w2.heap.size) v4).setCell (p := ⟨w2.heap.size, 5, none⟩) (.inl rfl) (.int .i64 (nv (pv l k).1 4))
      have D5 := Lib.hid (D4.out.turn TN HNE.out.2.1.1.symm)
      have X5 := Lib.hid (X4.out.turn TN HNE.out.1.1)
      have P5 := Lib.hid (pr_turn P4.out C4.out (noU8_7 _ _ _ _ _ _ _ _ _) TN HNE.out.2.1.2.1.symm)
      have T5 := Lib.hid (T4.out.setCell (p := ⟨w2.heap.size, 5, none⟩) (.inr HNE.out.2.2.1) (.int .i64 (nv (pv l k).1 4)))
      have C5 := Lib.hid (show Lies (v4.setCell ⟨w2.heap.size, 5, none⟩ (.int .i64 (nv (pv l k).1 4))) w2.heap.size 25 #[.int .i64 ((x : Nat) : Int), .int .i64 (nv (pv l k).1 0), .int .i64 (nv (pv l k).1 1), .int .i64 (nv (pv l k).1 2), .int .i64 (nv (pv l k).1 3), .int .i64 (nv (pv l k).1 4), .slice none 0 0] from C4.out.set_ 5 (.int .i64 (nv (pv l k).1 4)))
      clear TN D4 X4 P4 T4 C4
      generalize v4.setCell ⟨w2.heap.size, 5, none⟩ (.int .i64 (nv (pv l k).1 4)) = v5 at *
      have d0 : v5.cell? ⟨(w2.heap.size + 1), 0, none⟩ = some (.int .i64 (nv (pv l k).1 0)) := D5.out.cell 0
      have d1 : v5.cell? ⟨(w2.heap.size + 1), 1, none⟩ = some (.int .i64 (nv (pv l k).1 1)) := D5.out.cell 1
      have d2 : v5.cell? ⟨(w2.heap.size + 1), 2, none⟩ = some (.int .i64 (nv (pv l k).1 2)) := D5.out.cell 2
      have d3 : v5.cell? ⟨(w2.heap.size + 1), 3, none⟩ = some (.int .i64 (nv (pv l k).1 3)) := D5.out.cell 3
      have d4 : v5.cell? ⟨(w2.heap.size + 1), 4, none⟩ = some (.int .i64 (nv (pv l k).1 4)) := D5.out.cell 4
      refine hK.out _ _ (fun _ => ⟨d0, d1, d2, d3, d4⟩) ?_
      clear hK K
      try simp only [Act.put, List.setIfInBounds_toArray, List.set_cons_zero, List.set_cons_succ]
      have hS := And.intro d0 (And.intro d1 (And.intro d2 (And.intro d3 d4)))
      clear d0 d1 d2 d3 d4
      refine doneO (by kernel_rfl) ?_ _
      clear hS
      obtain ⟨n0, hn0⟩ : ∃ n, nv (pv l k).1 0 = n := ⟨_, rfl⟩
      obtain ⟨n1, hn1⟩ : ∃ n, nv (pv l k).1 1 = n := ⟨_, rfl⟩
      obtain ⟨n2, hn2⟩ : ∃ n, nv (pv l k).1 2 = n := ⟨_, rfl⟩
      obtain ⟨n3, hn3⟩ : ∃ n, nv (pv l k).1 3 = n := ⟨_, rfl⟩
      obtain ⟨n4, hn4⟩ : ∃ n, nv (pv l k).1 4 = n := ⟨_, rfl⟩
      rw [hn0, hn1, hn2, hn3, hn4] at C5 ⊢
      have HN0 := Lib.hid hn0
      have HN1 := Lib.hid hn1
      have HN2 := Lib.hid hn2
      have HN3 := Lib.hid hn3
      have HN4 := Lib.hid hn4
      clear hn0 hn1 hn2 hn3 hn4 D5
      by_cases hx0 : x = 0
      · have HE := Lib.hid (show rr = Oc.rrun (pv l k).2 by rw [← HRR.out]; exact if_pos hx0)
        have t0 : (((x : Nat) : Int) == 0) = true := by simp [hx0]
        have GR := Lib.hid (Ob.grun_any g (pv l k).2 v5 P5.out (Nat.le_trans (HPF.out k) HL.out))
        rw [← HE.out] at GR
        have c0 : v5.cell? ⟨w2.heap.size, 0, none⟩ = some (.int .i64 ((x : Nat) : Int)) := C5.out.cell 0
        clear hx0
        go_wp2_with fail
        refine GR.out.mono ?_
        rintro e v6 ⟨vq, rfl, ⟨q6, d6, rfl, hd6, hA6⟩, hp6, ht6⟩
        have HD := Lib.hid hd6
        have A6 := Lib.hid hA6
        have P6 := Lib.hid hp6
        have C6 := Lib.hid (C5.out.turn ht6 HNE.out.2.1.2.1)
        have X6 := Lib.hid (X5.out.turn ht6 HNE.out.1.2.2)
        have T6 := Lib.hid (T5.out.trans ht6 (fun _ hi => .inl hi))
        clear hd6 hA6 hp6 ht6 GR c0 C5 X5 T5 P5
        have c6 : v6.cell? ⟨w2.heap.size, 6, none⟩ = some (.slice none 0 0) := C6.out.cell 6
        have f6 := C6.out.frozen 6
        go_upto_region 11 with fail
        clear c6 f6
        have TN := (Turn.refl (fun i => i = w2.heap.size) v6).setCell (p := ⟨w2.heap.size, 6, none⟩) (.inl rfl) (.slice q6 rr.1.length d6)
        have X7 := Lib.hid (X6.out.turn TN HNE.out.1.1)
        have P7 := Lib.hid (pr_turn P6.out C6.out (noU8_7 _ _ _ _ _ _ _ _ _) TN HNE.out.2.1.2.1.symm)
        have A7 := Lib.hid (A6.out.plain TN (fun _ hk => ⟨_, _, hk ▸ C6.out, noU8_7 _ _ _ _ _ _ _ _ _⟩))
        have T7 := Lib.hid (T6.out.setCell (p := ⟨w2.heap.size, 6, none⟩) (.inr HNE.out.2.2.1) (.slice q6 rr.1.length d6))
        have C7 := Lib.hid (show Lies (v6.setCell ⟨w2.heap.size, 6, none⟩ (.slice q6 rr.1.length d6)) w2.heap.size 25 #[.int .i64 ((x : Nat) : Int), .int .i64 n0, .int .i64 n1, .int .i64 n2, .int .i64 n3, .int .i64 n4, .slice q6 rr.1.length d6] from C6.out.set_ 6 (.slice q6 rr.1.length d6))
        clear TN X6 P6 A6 T6 C6
        generalize v6.setCell ⟨w2.heap.size, 6, none⟩ (.slice q6 rr.1.length d6) = v7 at *
        have c0 : v7.cell? ⟨w2.heap.size, 0, none⟩ = some (.int .i64 ((x : Nat) : Int)) := C7.out.cell 0
        have c1 : v7.cell? ⟨w2.heap.size, 1, none⟩ = some (.int .i64 n0) := C7.out.cell 1
        have c2 : v7.cell? ⟨w2.heap.size, 2, none⟩ = some (.int .i64 n1) := C7.out.cell 2
        have c3 : v7.cell? ⟨w2.heap.size, 3, none⟩ = some (.int .i64 n2) := C7.out.cell 3
        have c4 : v7.cell? ⟨w2.heap.size, 4, none⟩ = some (.int .i64 n3) := C7.out.cell 4
        have c5 : v7.cell? ⟨w2.heap.size, 5, none⟩ = some (.int .i64 n4) := C7.out.cell 5
        have c6 : v7.cell? ⟨w2.heap.size, 6, none⟩ = some (.slice q6 rr.1.length d6) := C7.out.cell 6
        have r0 : v7.cell? ⟨w.heap.size, 0, none⟩ = some (.int .i64 0) := X7.out.cell 0
        have g0 := X7.out.frozen 0
        have r1 : v7.cell? ⟨w.heap.size, 1, none⟩ = some (.int .i64 0) := X7.out.cell 1
        have g1 := X7.out.frozen 1
        have r2 : v7.cell? ⟨w.heap.size, 2, none⟩ = some (.int .i64 0) := X7.out.cell 2
        have g2 := X7.out.frozen 2
        have r3 : v7.cell? ⟨w.heap.size, 3, none⟩ = some (.int .i64 0) := X7.out.cell 3
        have g3 := X7.out.frozen 3
        have r4 : v7.cell? ⟨w.heap.size, 4, none⟩ = some (.int .i64 0) := X7.out.cell 4
        have g4 := X7.out.frozen 4
        have r5 : v7.cell? ⟨w.heap.size, 5, none⟩ = some (.int .i64 0) := X7.out.cell 5
        have g5 := X7.out.frozen 5
        have r6 : v7.cell? ⟨w.heap.size, 6, none⟩ = some (.slice none 0 0) := X7.out.cell 6
        have g6 := X7.out.frozen 6
        have KT : ∀ W, Turn (fun i => i = w.heap.size) v7 W → At W q6 rr.1.length (rr).1 ∧ Ob.PR W g rr.2 ∧ Turn (fun k => k = g) w W := fun W hW => ⟨A7.out.plain hW (fun _ hk => ⟨_, _, hk ▸ X7.out, noU8_7 _ _ _ _ _ _ _ _ _⟩), pr_turn P7.out X7.out (noU8_7 _ _ _ _ _ _ _ _ _) hW HNE.out.1.2.2.symm, T7.out.trans hW (fun _ hi => .inr (Nat.le_of_eq hi.symm))⟩
        have HK := Lib.hid KT
        clear KT X7 P7 T7 C7
        go_wp2
        refine bodyPost_ret (v := .agg #[.int .i64 ((x : Nat) : Int), .int .i64 n0, .int .i64 n1, .int .i64 n2, .int .i64 n3, .int .i64 n4, .slice q6 rr.1.length d6]) (by simp [results, Tryd.results28, go_sem, r0, r1, r2, r3, r4, r5, r6]) rfl ?_
        refine ⟨⟨q6, rr.1.length, d6, ?_, HD.out, (HK.out _ ?_).1⟩, (HK.out _ ?_).2.1, (HK.out _ ?_).2.2⟩
        · rw [← HN0.out, ← HN1.out, ← HN2.out, ← HN3.out, ← HN4.out]
          rfl
        all_goals
          iterate 7 refine Turn.setCell ?_ (by exact .inl rfl) _
          exact Turn.refl _ _
      · have HE := Lib.hid (show rr = ([], (pv l k).2) by rw [← HRR.out]; exact if_neg hx0)
        have t0 : (((x : Nat) : Int) == 0) = false := by rw [beq_eq_false_iff_ne]; omega
        have HD := Lib.hid (show 0 ≤ 0 from Nat.le_refl 0)
        have PE := Lib.hid (show Ob.PR v5 g rr.2 by rw [HE.out]; exact P5.out)
        have AE := Lib.hid (show At v5 none 0 rr.1 by rw [HE.out]; exact at_nil v5)
        clear hx0
        have c0 : v5.cell? ⟨w2.heap.size, 0, none⟩ = some (.int .i64 ((x : Nat) : Int)) := C5.out.cell 0
        have c1 : v5.cell? ⟨w2.heap.size, 1, none⟩ = some (.int .i64 n0) := C5.out.cell 1
        have c2 : v5.cell? ⟨w2.heap.size, 2, none⟩ = some (.int .i64 n1) := C5.out.cell 2
        have c3 : v5.cell? ⟨w2.heap.size, 3, none⟩ = some (.int .i64 n2) := C5.out.cell 3
        have c4 : v5.cell? ⟨w2.heap.size, 4, none⟩ = some (.int .i64 n3) := C5.out.cell 4
        have c5 : v5.cell? ⟨w2.heap.size, 5, none⟩ = some (.int .i64 n4) := C5.out.cell 5
        have c6 : v5.cell? ⟨w2.heap.size, 6, none⟩ = some (.slice none 0 0) := C5.out.cell 6
        have r0 : v5.cell? ⟨w.heap.size, 0, none⟩ = some (.int .i64 0) := X5.out.cell 0
        have g0 := X5.out.frozen 0
        have r1 : v5.cell? ⟨w.heap.size, 1, none⟩ = some (.int .i64 0) := X5.out.cell 1
        have g1 := X5.out.frozen 1
        have r2 : v5.cell? ⟨w.heap.size, 2, none⟩ = some (.int .i64 0) := X5.out.cell 2
        have g2 := X5.out.frozen 2
        have r3 : v5.cell? ⟨w.heap.size, 3, none⟩ = some (.int .i64 0) := X5.out.cell 3
        have g3 := X5.out.frozen 3
        have r4 : v5.cell? ⟨w.heap.size, 4, none⟩ = some (.int .i64 0) := X5.out.cell 4
        have g4 := X5.out.frozen 4
        have r5 : v5.cell? ⟨w.heap.size, 5, none⟩ = some (.int .i64 0) := X5.out.cell 5
        have g5 := X5.out.frozen 5
        have r6 : v5.cell? ⟨w.heap.size, 6, none⟩ = some (.slice none 0 0) := X5.out.cell 6
        have g6 := X5.out.frozen 6
        have KT : ∀ W, Turn (fun i => i = w.heap.size) v5 W → At W none 0 (rr).1 ∧ Ob.PR W g rr.2 ∧ Turn (fun k => k = g) w W := fun W hW => ⟨AE.out.plain hW (fun _ hk => ⟨_, _, hk ▸ X5.out, noU8_7 _ _ _ _ _ _ _ _ _⟩), pr_turn PE.out X5.out (noU8_7 _ _ _ _ _ _ _ _ _) hW HNE.out.1.2.2.symm, T5.out.trans hW (fun _ hi => .inr (Nat.le_of_eq hi.symm))⟩
        have HK := Lib.hid KT
        clear KT X5 P5 T5 C5
        go_wp2
        refine bodyPost_ret (v := .agg #[.int .i64 ((x : Nat) : Int), .int .i64 n0, .int .i64 n1, .int .i64 n2, .int .i64 n3, .int .i64 n4, .slice none 0 0]) (by simp [results, Tryd.results28, go_sem, r0, r1, r2, r3, r4, r5, r6]) rfl ?_
        refine ⟨⟨none, 0, 0, ?_, HD.out, (HK.out _ ?_).1⟩, (HK.out _ ?_).2.1, (HK.out _ ?_).2.2⟩
        · rw [← HN0.out, ← HN1.out, ← HN2.out, ← HN3.out, ← HN4.out]
          rfl
        all_goals
          iterate 7 refine Turn.setCell ?_ (by exact .inl rfl) _
          exact Turn.refl _ _
set_option maxRecDepth 100000 in
set_option maxHeartbeats 16000000 in
theorem pdec_any (p : Option Addr) (n cp : Nat) (l : List Nat) (w : World) (hr : Tabl w) (hA : At w p n l) (hn : n ≤ 1000000) : Calls Tryd.prog 8 #[.slice p n cp] w (DecEnd w l) := by
  have HE := Lib.hid (dec_p l)
  have B1 := Lib.hid (alloc_below w (.cells #[.int .i64 0, .int .i64 0, .int .i64 0, .int .i64 0, .int .i64 0, .int .i64 0, .slice none 0 0] 25))
  have X1 := Lib.hid (Lies.new w 25 #[.int .i64 0, .int .i64 0, .int .i64 0, .int .i64 0, .int .i64 0, .int .i64 0, .slice none 0 0])
  obtain ⟨w1, hw1⟩ : ∃ w1, w.alloc (.cells #[.int .i64 0, .int .i64 0, .int .i64 0, .int .i64 0, .int .i64 0, .int .i64 0, .slice none 0 0] 25) = w1 := ⟨_, rfl⟩
  rw [hw1] at B1 X1
  have hs1 : w1.heap.size = w.heap.size + 1 := by rw [← hw1]; simp
  have R1 := Lib.hid (hr.on B1.out)
  have GN := Lib.hid (Ob.newr_any p n cp l w1 hn (hA.keep B1.out))
  have HLL := Lib.hid (show l.length ≤ 1000000 by rw [hA.1]; exact hn)
  have HS1 := Lib.hid hs1
  have GW := Lib.hid hr.lt
  have BL := Lib.hid (fun (x : Nat) (s : Nat × List Nat) (hs : s.2.length ≤ 1000000) => show (runOf x s).1.length ≤ 1000000 from by
    unfold runOf
    split
    · exact Nat.le_trans (rrun_le s) hs
    · simp)
  have HB := Lib.hid (show (pcm l).bytes.length ≤ 1000000 from BL.out _ _ (Nat.le_trans (pv_left l (pm l)) HLL.out))
  clear hr hA hn hs1 BL
  go_enter Tryd.func8, Tryd.ntmps8
  go_wp2_with fail
  refine GN.out.mono ?_
  rintro e w2 ⟨g, rfl, hg, hp2, hb2⟩
  have R2 := Lib.hid (R1.out.on hb2)
  have B2 := Lib.hid (B1.out.trans (hb2.mono B1.out.size))
  have X2 := Lib.hid (X1.out.below hb2 X1.out.lt)
  have HG := Lib.hid (show w.heap.size ≠ g ∧ 0 ≠ g ∧ w.heap.size ≤ g ∧ w.heap.size ≤ w2.heap.size by have := HS1.out; have := GW.out; have := hb2.size; omega)
  have RD := Lib.hid (pread_any g l w2 R2.out HG.out.2.1 hp2 HLL.out)
  clear hp2 hb2 hg GN R1 B1 X1 HS1 GW HLL hw1
  go_wp2_with fail
  refine RD.out.mono ?_
  rintro e w3 ⟨⟨q3, n3, d3, rfl, hd3, hA3⟩, hp3, ht3⟩
  have R3 := Lib.hid (R2.out.turn ht3 HG.out.2.1)
  have B3 := Lib.hid (ht3.below B2.out HG.out.2.2.2 (fun i hi => hi ▸ HG.out.2.2.1))
  have X3 := Lib.hid (X2.out.turn ht3 HG.out.1)
  have P3 := Lib.hid hp3
  have A3 := Lib.hid hA3
  have HD := Lib.hid hd3
  clear hp3 ht3 hA3 hd3 RD R2 B2 X2
  generalize pst l = st at *
  generalize pcm l = cm at *
  obtain ⟨ka, kb, kc, kd, ke, kf, kl⟩ := cm
  simp only [cval] at A3 HB ⊢
  have hb4 := alloc_below w3 (.cells #[.int .i64 ka, .int .i64 kb, .int .i64 kc, .int .i64 kd, .int .i64 ke, .int .i64 kf, .slice q3 n3 d3] 25)
  have C4 := Lib.hid (Lies.new w3 25 #[.int .i64 ka, .int .i64 kb, .int .i64 kc, .int .i64 kd, .int .i64 ke, .int .i64 kf, .slice q3 n3 d3])
  have R4 := Lib.hid (R3.out.on hb4)
  have B4 := Lib.hid (B3.out.trans (hb4.mono B3.out.size))
  have X4 := Lib.hid (X3.out.below hb4 X3.out.lt)
  have A4 := Lib.hid (A3.out.keep hb4)
  have EN := Lib.hid (Ob.end_any g st (w3.alloc (.cells #[.int .i64 ka, .int .i64 kb, .int .i64 kc, .int .i64 kd, .int .i64 ke, .int .i64 kf, .slice q3 n3 d3] 25)) (P3.out.below hb4))
  have RT := Lib.hid (fun W hW => pright_any ⟨⟨ka, kb, kc, kd, ke, kf, kl⟩, q3, n3, d3⟩ W hW A3.out.1 (by show n3 ≤ 1000000; rw [← A3.out.1]; exact HB.out))
  simp only [cval] at RT
  generalize hdn : Oc.rdone st = dn at *
  generalize rightB (⟨ka, kb, kc, kd, ke, kf, kl⟩ : Cm) = rb at *
  have hwn : ∃ w4, w3.alloc (.cells #[.int .i64 ka, .int .i64 kb, .int .i64 kc, .int .i64 kd, .int .i64 ke, .int .i64 kf, .slice q3 n3 d3] 25) = w4 := ⟨_, rfl⟩
  clear hb4 R3 B3 X3 P3 A3 hdn
  go_wp2_with fail
  refine EN.out.mono ?_
  rintro e w4' ⟨rfl, rfl⟩
  obtain ⟨w4, hw4⟩ := hwn
  rw [hw4] at C4 R4 B4 X4 A4 ⊢
  clear hw4 EN
  by_cases hd : dn = 0
  · have u0 : (((dn : Nat) : Int) != 0) = false := by simp [hd]
    have c0 : w4.cell? ⟨w3.heap.size, 0, none⟩ = some (.int .i64 ka) := C4.out.cell 0
    have c1 : w4.cell? ⟨w3.heap.size, 1, none⟩ = some (.int .i64 kb) := C4.out.cell 1
    have c2 : w4.cell? ⟨w3.heap.size, 2, none⟩ = some (.int .i64 kc) := C4.out.cell 2
    have c3 : w4.cell? ⟨w3.heap.size, 3, none⟩ = some (.int .i64 kd) := C4.out.cell 3
    have c4 : w4.cell? ⟨w3.heap.size, 4, none⟩ = some (.int .i64 ke) := C4.out.cell 4
    have c5 : w4.cell? ⟨w3.heap.size, 5, none⟩ = some (.int .i64 kf) := C4.out.cell 5
    have c6 : w4.cell? ⟨w3.heap.size, 6, none⟩ = some (.slice q3 n3 d3) := C4.out.cell 6
    have HD0 := Lib.hid hd
    clear hd
    go_wp2_with fail
    refine (RT.out _ R4.out).mono ?_
    rintro e w5 ⟨rfl, hb⟩
    have B5 := Lib.hid (B4.out.trans (hb.mono B4.out.size))
    have X5 := Lib.hid (X4.out.below hb X4.out.lt)
    have C5 := Lib.hid (C4.out.below hb C4.out.lt)
    have A5 := Lib.hid (A4.out.keep hb)
    clear hb B4 X4 C4 A4 RT R4 c0 c1 c2 c3 c4 c5 c6
    cases rb with
    | false =>
      have HE2 := Lib.hid (show dec l = (cm0, 2) by rw [HE.out, if_pos (.inr rfl)])
      clear HE C5 A5
      have r0 : w5.cell? ⟨w.heap.size, 0, none⟩ = some (.int .i64 0) := X5.out.cell 0
      have g0 := X5.out.frozen 0
      have r1 : w5.cell? ⟨w.heap.size, 1, none⟩ = some (.int .i64 0) := X5.out.cell 1
      have g1 := X5.out.frozen 1
      have r2 : w5.cell? ⟨w.heap.size, 2, none⟩ = some (.int .i64 0) := X5.out.cell 2
      have g2 := X5.out.frozen 2
      have r3 : w5.cell? ⟨w.heap.size, 3, none⟩ = some (.int .i64 0) := X5.out.cell 3
      have g3 := X5.out.frozen 3
      have r4 : w5.cell? ⟨w.heap.size, 4, none⟩ = some (.int .i64 0) := X5.out.cell 4
      have g4 := X5.out.frozen 4
      have r5 : w5.cell? ⟨w.heap.size, 5, none⟩ = some (.int .i64 0) := X5.out.cell 5
      have g5 := X5.out.frozen 5
      have r6 : w5.cell? ⟨w.heap.size, 6, none⟩ = some (.slice none 0 0) := X5.out.cell 6
      have g6 := X5.out.frozen 6
      clear X5
      go_wp2
      refine bodyPost_ret (v := .tuple #[.agg #[.int .i64 0, .int .i64 0, .int .i64 0, .int .i64 0, .int .i64 0, .int .i64 0, .slice none 0 0], .int .i64 2]) (by simp [results, Tryd.results8, go_sem, r0, r1, r2, r3, r4, r5, r6]) rfl (dec_end0 HE2.out ?_)
      iterate 7 refine Below.setCell ?_ (show w.heap.size ≤ _ from Nat.le_refl _) _
      exact B5.out
    | true =>
      have HE2 := Lib.hid (show dec l = (⟨ka, kb, kc, kd, ke, kf, kl⟩, 0) by rw [HE.out, if_neg (fun h => h.elim (fun h => h HD0.out) (fun h => Bool.noConfusion h))])
      have AK := Lib.hid (fun W (hW : Turn (fun i => i = w.heap.size) w5 W) => A5.out.plain hW (fun _ hk => ⟨_, _, hk ▸ X5.out, noU8_7 _ _ _ _ _ _ _ _ _⟩))
      have c0 : w5.cell? ⟨w3.heap.size, 0, none⟩ = some (.int .i64 ka) := C5.out.cell 0
      have c1 : w5.cell? ⟨w3.heap.size, 1, none⟩ = some (.int .i64 kb) := C5.out.cell 1
      have c2 : w5.cell? ⟨w3.heap.size, 2, none⟩ = some (.int .i64 kc) := C5.out.cell 2
      have c3 : w5.cell? ⟨w3.heap.size, 3, none⟩ = some (.int .i64 kd) := C5.out.cell 3
      have c4 : w5.cell? ⟨w3.heap.size, 4, none⟩ = some (.int .i64 ke) := C5.out.cell 4
      have c5 : w5.cell? ⟨w3.heap.size, 5, none⟩ = some (.int .i64 kf) := C5.out.cell 5
      have c6 : w5.cell? ⟨w3.heap.size, 6, none⟩ = some (.slice q3 n3 d3) := C5.out.cell 6
      have r0 : w5.cell? ⟨w.heap.size, 0, none⟩ = some (.int .i64 0) := X5.out.cell 0
      have g0 := X5.out.frozen 0
      have r1 : w5.cell? ⟨w.heap.size, 1, none⟩ = some (.int .i64 0) := X5.out.cell 1
      have g1 := X5.out.frozen 1
      have r2 : w5.cell? ⟨w.heap.size, 2, none⟩ = some (.int .i64 0) := X5.out.cell 2
      have g2 := X5.out.frozen 2
      have r3 : w5.cell? ⟨w.heap.size, 3, none⟩ = some (.int .i64 0) := X5.out.cell 3
      have g3 := X5.out.frozen 3
      have r4 : w5.cell? ⟨w.heap.size, 4, none⟩ = some (.int .i64 0) := X5.out.cell 4
      have g4 := X5.out.frozen 4
      have r5 : w5.cell? ⟨w.heap.size, 5, none⟩ = some (.int .i64 0) := X5.out.cell 5
      have g5 := X5.out.frozen 5
      have r6 : w5.cell? ⟨w.heap.size, 6, none⟩ = some (.slice none 0 0) := X5.out.cell 6
      have g6 := X5.out.frozen 6
      clear HE X5 C5 A5
      go_wp2
      refine bodyPost_ret (v := .tuple #[.agg #[.int .i64 ka, .int .i64 kb, .int .i64 kc, .int .i64 kd, .int .i64 ke, .int .i64 kf, .slice q3 n3 d3], .int .i64 0]) (by simp [results, Tryd.results8, go_sem, r0, r1, r2, r3, r4, r5, r6]) rfl (dec_end1 HE2.out (AK.out _ ?_) HD.out ?_)
      · iterate 7 refine Turn.setCell ?_ (by exact .inl rfl) _
        exact Turn.refl _ _
      · iterate 7 refine Below.setCell ?_ (show w.heap.size ≤ _ from Nat.le_refl _) _
        exact B5.out
  · have u0 : (((dn : Nat) : Int) != 0) = true := by simp [hd]
    have HE2 := Lib.hid (show dec l = (cm0, 2) by rw [HE.out, if_pos (.inl hd)])
    clear HE hd RT R4 C4 A4
    have r0 : w4.cell? ⟨w.heap.size, 0, none⟩ = some (.int .i64 0) := X4.out.cell 0
    have g0 := X4.out.frozen 0
    have r1 : w4.cell? ⟨w.heap.size, 1, none⟩ = some (.int .i64 0) := X4.out.cell 1
    have g1 := X4.out.frozen 1
    have r2 : w4.cell? ⟨w.heap.size, 2, none⟩ = some (.int .i64 0) := X4.out.cell 2
    have g2 := X4.out.frozen 2
    have r3 : w4.cell? ⟨w.heap.size, 3, none⟩ = some (.int .i64 0) := X4.out.cell 3
    have g3 := X4.out.frozen 3
    have r4 : w4.cell? ⟨w.heap.size, 4, none⟩ = some (.int .i64 0) := X4.out.cell 4
    have g4 := X4.out.frozen 4
    have r5 : w4.cell? ⟨w.heap.size, 5, none⟩ = some (.int .i64 0) := X4.out.cell 5
    have g5 := X4.out.frozen 5
    have r6 : w4.cell? ⟨w.heap.size, 6, none⟩ = some (.slice none 0 0) := X4.out.cell 6
    have g6 := X4.out.frozen 6
    clear X4
    go_wp2
    refine bodyPost_ret (v := .tuple #[.agg #[.int .i64 0, .int .i64 0, .int .i64 0, .int .i64 0, .int .i64 0, .int .i64 0, .slice none 0 0], .int .i64 2]) (by simp [results, Tryd.results8, go_sem, r0, r1, r2, r3, r4, r5, r6]) rfl (dec_end0 HE2.out ?_)
    iterate 7 refine Below.setCell ?_ (show w.heap.size ≤ _ from Nat.le_refl _) _
    exact B4.out
end Cm
end Go.Proofs.YtbahilakfgbgpaaDoor
