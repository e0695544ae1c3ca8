/- Walks over the document's answer of layer 18: the command of bytes. Condition: the list reads as bytes. -/
import Derived.Test.YtbahilakfgbgpaaDoorCm2
import Derived.Test.YtbahilakfgbgpaaDoorOb4
import Derived.Maps.AppendAt
import Derived.Deep.CutRange
namespace Go.Proofs.YtbahilakfgbgpaaDoor
open Go.RowKit

namespace Cm
theorem noU8_7 (k a b c d e : Int) (p : Option Addr) (n q : Nat) : NoU8 #[.int .i64 k, .int .i64 a, .int .i64 b, .int .i64 c, .int .i64 d, .int .i64 e, .slice p n q] := by
  intro i x h
  match i with
  | 0 => simp at h
  | 1 => simp at h
  | 2 => simp at h
  | 3 => simp at h
  | 4 => simp at h
  | 5 => simp at h
  | 6 => simp at h
  | i + 7 => simp at h
theorem rr_grown {w w' : World} {g k : Nat} {s : Nat × List Nat} (h : Ob.RR w g s) (hg : w.grownBy w' (some k)) (hk : Lies w k 5 #[]) (hne : g ≠ k) : Ob.RR w' g s := by
  obtain ⟨p, n, c, a, B, hb, h1, h2, h3, hA, h4⟩ := h
  refine ⟨p, n, c, a, B, hb.grown hg (fun e => hne (Option.some.inj e)), h1, h2, h3, ⟨hA.1, hA.2.1, fun h0 => ?_⟩, h4⟩
  obtain ⟨b, o, e, hj⟩ := hA.2.2 h0
  refine ⟨b, o, e, fun j hjn => ?_⟩
  have h5 := hj j hjn
  have hbk : b ≠ k := by
    rintro rfl
    rw [hk.cell (o + j)] at h5
    cases h5
  have hlt : b < w.heap.size := World.block_lt_of_cell? w _ h5
  exact (World.cell?_of_block (a := ⟨b, o + j, none⟩) (hg.block b hlt (fun e => hbk (Option.some.inj e)))).trans h5
theorem rrun_le (s : Nat × List Nat) : (Oc.rrun s).1.length ≤ s.2.length := by
  unfold Oc.rrun
  have h := Oc.rnum_len s 4
  split
  · simp
  · split
    · simp
    · rw [List.length_take]
      omega
theorem rr_below {w w' : World} {g : Nat} {s : Nat × List Nat} (h : Ob.RR w g s) (hb : Below w.heap.size w w') : Ob.RR w' g s :=
  h.turn (S := fun _ => False) (Turn.of_below hb) (fun _ hf => hf.elim) (fun hf => hf)
theorem getD_snoc (v : List Int) (z : Int) (i : Nat) : (v ++ [z]).getD i 0 = if i = v.length then z else v.getD i 0 := by
  rw [List.getD_eq_getElem?_getD, List.getD_eq_getElem?_getD]
  by_cases h : i < v.length
  · rw [List.getElem?_append_left h, if_neg (by omega)]
  · rw [List.getElem?_append_right (by omega)]
    by_cases h2 : i = v.length
    · subst h2
      simp
    · rw [if_neg h2, List.getElem?_eq_none (by simp; omega), List.getElem?_eq_none (by omega)]
/-- The numbers that are read. -/
def V5 (v : List Int) (a b c d e : Int) : Prop := v.getD 0 0 = a ∧ v.getD 1 0 = b ∧ v.getD 2 0 = c ∧ v.getD 3 0 = d ∧ v.getD 4 0 = e
theorem rd_snoc (k : Nat) (s : Nat × List Nat) : rd (k + 1) s = ((rd k s).1 ++ [IntKind.i64.wrap ((Oc.rnum (rd k s).2 8).1 : Int)], (Oc.rnum (rd k s).2 8).2) := rfl
def DecEnd (w : World) (l : List Nat) (e : Ending) (w' : World) : Prop := (∃ q m d, e = .returned (.tuple #[cval ⟨(dec l).1, q, m, d⟩, .int .i64 (dec l).2]) ∧ At w' q m (dec l).1.bytes ∧ m ≤ d) ∧ Below w.heap.size w w'
theorem dec_end1 {w w' : World} {l : List Nat} {c : Cm} {q : Option Addr} {m d : Nat} (h : dec l = (c, 0)) (hA : At w' q m c.bytes) (hd : m ≤ d) (hb : Below w.heap.size w w') : DecEnd w l (.returned (.tuple #[cval ⟨c, q, m, d⟩, .int .i64 0])) w' := by
  refine ⟨⟨q, m, d, ?_, ?_, hd⟩, hb⟩
  · rw [h]
  · rw [h]
    exact hA
theorem dec_end0 {w w' : World} {l : List Nat} (h : dec l = (cm0, 2)) (hb : Below w.heap.size w w') : DecEnd w l (.returned (.tuple #[.agg #[.int .i64 0, .int .i64 0, .int .i64 0, .int .i64 0, .int .i64 0, .int .i64 0, .slice none 0 0], .int .i64 2])) w' := by
  refine ⟨⟨none, 0, 0, ?_, ?_, Nat.le_refl _⟩, hb⟩
  · rw [h]
    rfl
  · rw [h]
    exact at_nil w'
set_option maxRecDepth 100000 in
set_option maxHeartbeats 16000000 in
theorem r18dec_nil (p : Option Addr) (cp : Nat) (w : World) : Calls Tryd.prog 9 #[.slice p 0 cp] w (DecEnd w []) := by
  have HE := Lib.hid (show dec [] = (cm0, 2) from rfl)
  have B1 := Lib.hid (alloc_below w (.cells #[.int .i64 0, .int .i64 0, .int .i64 0, .int .i64 0, .int .i64 0, .int .i64 0, .slice none 0 0] 25))
  have X1 := Lib.hid (Lies.new w 25 #[.int .i64 0, .int .i64 0, .int .i64 0, .int .i64 0, .int .i64 0, .int .i64 0, .slice none 0 0])
  obtain ⟨w1, hw1⟩ : ∃ w1, w.alloc (.cells #[.int .i64 0, .int .i64 0, .int .i64 0, .int .i64 0, .int .i64 0, .int .i64 0, .slice none 0 0] 25) = w1 := ⟨_, rfl⟩
  rw [hw1] at B1 X1
  have r0 : w1.cell? ⟨w.heap.size, 0, none⟩ = some (.int .i64 0) := X1.out.cell 0
  have rf0 := X1.out.frozen 0
  have r1 : w1.cell? ⟨w.heap.size, 1, none⟩ = some (.int .i64 0) := X1.out.cell 1
  have rf1 := X1.out.frozen 1
  have r2 : w1.cell? ⟨w.heap.size, 2, none⟩ = some (.int .i64 0) := X1.out.cell 2
  have rf2 := X1.out.frozen 2
  have r3 : w1.cell? ⟨w.heap.size, 3, none⟩ = some (.int .i64 0) := X1.out.cell 3
  have rf3 := X1.out.frozen 3
  have r4 : w1.cell? ⟨w.heap.size, 4, none⟩ = some (.int .i64 0) := X1.out.cell 4
  have rf4 := X1.out.frozen 4
  have r5 : w1.cell? ⟨w.heap.size, 5, none⟩ = some (.int .i64 0) := X1.out.cell 5
  have rf5 := X1.out.frozen 5
  have r6 : w1.cell? ⟨w.heap.size, 6, none⟩ = some (.slice none 0 0) := X1.out.cell 6
  have rf6 := X1.out.frozen 6
  go_enter Tryd.func9, Tryd.ntmps9
  go_wp2
  refine bodyPost_ret (v := .tuple #[.agg #[.int .i64 0, .int .i64 0, .int .i64 0, .int .i64 0, .int .i64 0, .int .i64 0, .slice none 0 0], .int .i64 2]) (by simp [results, Tryd.results9, go_sem, r0, r1, r2, r3, r4, r5, r6]) rfl (dec_end0 HE.out ?_)
  iterate 7 refine Below.setCell ?_ (show w.heap.size ≤ _ from Nat.le_refl _) _
  exact B1.out
set_option maxRecDepth 100000 in
set_option maxHeartbeats 16000000 in
theorem r18dec_cons (p : Option Addr) (n cp : Nat) (x : Nat) (r : List Nat) (w : World) (hA : At w p n (x :: r)) (hn : n ≤ 1000000) (hnc : n ≤ cp) : Calls Tryd.prog 9 #[.slice p n cp] w (DecEnd w (x :: r)) := by
  have hl := hA.1
  simp only [List.length_cons] at hl
  have hn0 : 0 < n := by omega
  have hx := hA.2.1 x List.mem_cons_self
  obtain ⟨b, o, rfl, hc⟩ := hA.2.2 hn0
  have hb0 := hc 0 hn0
  rw [Nat.add_zero] at hb0
  have e0 : w.cell? ⟨b, o, none⟩ = some (.int .u8 ((x : Nat) : Int)) := by simpa using hb0
  have hblt : b < w.heap.size := World.block_lt_of_cell? w _ e0
  have HA := Lib.hid hA
  have N := Lib.hid (fun W => r18num_below ((x : Nat) : Int) W)
  have CB := cnt_bd ((x : Nat) : Int)
  have DE : Hid (cnt ((x : Nat) : Int) < 0 → dec (x :: r) = (cm0, 2)) := Lib.hid (fun h => by
    show (if cnt ((x : Nat) : Int) < 0 then (cm0, (2 : Int)) else _) = _
    rw [if_pos h])
  have DN : Hid (¬ cnt ((x : Nat) : Int) < 0 → dec (x :: r) = if Oc.rdone (runOf x (rd (cnt ((x : Nat) : Int)).toNat (0, r)).2).2 ≠ 0 ∨ rightB (cmOf x (rd (cnt ((x : Nat) : Int)).toNat (0, r)).1 (runOf x (rd (cnt ((x : Nat) : Int)).toNat (0, r)).2).1) = false then (cm0, 2)
      else (cmOf x (rd (cnt ((x : Nat) : Int)).toNat (0, r)).1 (runOf x (rd (cnt ((x : Nat) : Int)).toNat (0, r)).2).1, 0)) := Lib.hid (fun h => by
    show (if cnt ((x : Nat) : Int) < 0 then (cm0, (2 : Int)) else _) = _
    rw [if_neg h])
  have hn3 : ((n : Nat) : Int) ≤ 1000000 := by omega
  have hn4 : (0 : Int) < ((n : Nat) : Int) := by omega
  have t0 : (((n : Nat) : Int) == 0) = false := by rw [beq_eq_false_iff_ne]; omega
  have hx3 : ((x : Nat) : Int) ≤ 255 := by omega
  clear hA hc hb0 hl
  have B_0 := Lib.hid (Below.refl w.heap.size w)
  have B_1 := Lib.hid (B_0.out.alloc B_0.out.size (.cells #[.int .i64 0, .int .i64 0, .int .i64 0, .int .i64 0, .int .i64 0, .int .i64 0, .slice none 0 0] 25))
  clear B_0
  have R_1 := Lib.hid (Lies.new w 25 #[.int .i64 0, .int .i64 0, .int .i64 0, .int .i64 0, .int .i64 0, .int .i64 0, .slice none 0 0])
  have B_2 := Lib.hid (B_1.out.alloc B_1.out.size (.cells #[.int .i64 ((x : Nat) : Int), .int .i64 0, .int .i64 0, .int .i64 0, .int .i64 0, .int .i64 0, .slice none 0 0] 25))
  have R_2 := Lib.hid (R_1.out.alloc (.cells #[.int .i64 ((x : Nat) : Int), .int .i64 0, .int .i64 0, .int .i64 0, .int .i64 0, .int .i64 0, .slice none 0 0] 25))
  clear B_1 R_1
  have C_2 := Lib.hid (show Lies ((w.alloc (.cells #[.int .i64 0, .int .i64 0, .int .i64 0, .int .i64 0, .int .i64 0, .int .i64 0, .slice none 0 0] 25)).alloc (.cells #[.int .i64 ((x : Nat) : Int), .int .i64 0, .int .i64 0, .int .i64 0, .int .i64 0, .int .i64 0, .slice none 0 0] 25)) (w.heap.size + 1) 25 #[.int .i64 ((x : Nat) : Int), .int .i64 0, .int .i64 0, .int .i64 0, .int .i64 0, .int .i64 0, .slice none 0 0] by simpa using Lies.new (w.alloc (.cells #[.int .i64 0, .int .i64 0, .int .i64 0, .int .i64 0, .int .i64 0, .int .i64 0, .slice none 0 0] 25)) 25 #[.int .i64 ((x : Nat) : Int), .int .i64 0, .int .i64 0, .int .i64 0, .int .i64 0, .int .i64 0, .slice none 0 0])
  have e0' : (w.alloc (.cells #[.int .i64 0, .int .i64 0, .int .i64 0, .int .i64 0, .int .i64 0, .int .i64 0, .slice none 0 0] 25)).cell? ⟨b, o, none⟩ = some (.int .u8 ((x : Nat) : Int)) := ((alloc_below w (.cells #[.int .i64 0, .int .i64 0, .int .i64 0, .int .i64 0, .int .i64 0, .int .i64 0, .slice none 0 0] 25)).cell (p := ⟨b, o, none⟩) hblt).trans e0
  have hlen : (x :: r).length = n := HA.out.1
  have c0_2 : ((w.alloc (.cells #[.int .i64 0, .int .i64 0, .int .i64 0, .int .i64 0, .int .i64 0, .int .i64 0, .slice none 0 0] 25)).alloc (.cells #[.int .i64 ((x : Nat) : Int), .int .i64 0, .int .i64 0, .int .i64 0, .int .i64 0, .int .i64 0, .slice none 0 0] 25)).cell? ⟨(w.heap.size + 1), 0, none⟩ = some (.int .i64 ((x : Nat) : Int)) := C_2.out.cell 0
  go_enter Tryd.func9, Tryd.ntmps9
  go_wp2_with fail
  refine (N.out _).mono ?_
  rintro e w3 ⟨rfl, hb⟩
  clear c0_2
  have B_3 := Lib.hid (B_2.out.trans (hb.mono B_2.out.size))
  have R_3 := Lib.hid (R_2.out.below hb R_2.out.lt)
  have C_3 := Lib.hid (C_2.out.below hb C_2.out.lt)
  clear B_2 R_2 C_2
  clear hb e0 e0'
  by_cases hneg : cnt ((x : Nat) : Int) < 0
  · have t1 : decide (cnt ((x : Nat) : Int) < 0) = true := by simpa using hneg
    have HE := Lib.hid (DE.out hneg)
    clear hneg DE DN N C_3
    have r0 : w3.cell? ⟨w.heap.size, 0, none⟩ = some (.int .i64 0) := R_3.out.cell 0
    have rf0 := R_3.out.frozen 0
    have r1 : w3.cell? ⟨w.heap.size, 1, none⟩ = some (.int .i64 0) := R_3.out.cell 1
    have rf1 := R_3.out.frozen 1
    have r2 : w3.cell? ⟨w.heap.size, 2, none⟩ = some (.int .i64 0) := R_3.out.cell 2
    have rf2 := R_3.out.frozen 2
    have r3 : w3.cell? ⟨w.heap.size, 3, none⟩ = some (.int .i64 0) := R_3.out.cell 3
    have rf3 := R_3.out.frozen 3
    have r4 : w3.cell? ⟨w.heap.size, 4, none⟩ = some (.int .i64 0) := R_3.out.cell 4
    have rf4 := R_3.out.frozen 4
    have r5 : w3.cell? ⟨w.heap.size, 5, none⟩ = some (.int .i64 0) := R_3.out.cell 5
    have rf5 := R_3.out.frozen 5
    have r6 : w3.cell? ⟨w.heap.size, 6, none⟩ = some (.slice none 0 0) := R_3.out.cell 6
    have rf6 := R_3.out.frozen 6
    clear R_3
    generalize cnt ((x : Nat) : Int) = cx at t1 ⊢
    go_wp2
    refine bodyPost_ret (v := .tuple #[.agg #[.int .i64 0, .int .i64 0, .int .i64 0, .int .i64 0, .int .i64 0, .int .i64 0, .slice none 0 0], .int .i64 2]) (by simp [results, Tryd.results9, go_sem, r0, r1, r2, r3, r4, r5, r6]) rfl (dec_end0 HE.out ?_)
    iterate 7 refine Below.setCell ?_ (show w.heap.size ≤ _ from Nat.le_refl _) _
    exact B_3.out
  · have t1 : decide (cnt ((x : Nat) : Int) < 0) = false := by simpa using hneg
    have HD := Lib.hid (DN.out (by omega))
    obtain ⟨m, hm⟩ : ∃ m : Nat, cnt ((x : Nat) : Int) = (m : Int) := ⟨(cnt ((x : Nat) : Int)).toNat, by omega⟩
    have HM := Lib.hid hm
    rw [hm] at t1 CB HD ⊢
    simp only [Int.toNat_natCast] at HD
    have hm5 : m ≤ 5 := by omega
    have hm6 : (m : Int) ≤ 5 := by omega
    clear hneg DE DN N hm CB
    have RD := Lib.hid (show Ob.RR (w3.alloc (.cells #[.slice (some ⟨b, o, none⟩) n cp, .int .i64 1, .int .i64 0] 57)) w3.heap.size (0, r) from ⟨some ⟨b, o, none⟩, n, cp, 1, x :: r, Lies.new w3 _ _, hnc, hn, by omega, (HA.out.keep B_3.out).keep (alloc_below w3 _), fun _ => rfl, fun h => absurd rfl h⟩)
    have B3 := Lib.hid (B_3.out.alloc B_3.out.size (.cells #[.slice (some ⟨b, o, none⟩) n cp, .int .i64 1, .int .i64 0] 57))
    have R3 := Lib.hid (R_3.out.alloc (.cells #[.slice (some ⟨b, o, none⟩) n cp, .int .i64 1, .int .i64 0] 57))
    have C3 := Lib.hid (C_3.out.alloc (.cells #[.slice (some ⟨b, o, none⟩) n cp, .int .i64 1, .int .i64 0] 57))
    have SG := Lib.hid (show w.heap.size + 1 < w3.heap.size from C_3.out.lt)
    have V0 := Lib.hid (show V5 (rd 0 (0, r)).1 0 0 0 0 0 from ⟨rfl, rfl, rfl, rfl, rfl⟩)
    have RD2 := Lib.hid (show Ob.RR (w3.alloc (.cells #[.slice (some ⟨b, o, none⟩) n cp, .int .i64 1, .int .i64 0] 57)) w3.heap.size (rd 0 (0, r)).2 from RD.out)
    clear B_3 R_3 C_3 RD
    go_wp2_with fail
    generalize w3.alloc (.cells #[.slice (some ⟨b, o, none⟩) n cp, .int .i64 1, .int .i64 0] 57) = wx at *
    generalize w3.heap.size = g at *
    go_loopw [7] (fun i wr => ∃ (k : Nat) (va vb vc vd ve : Int), k ≤ m ∧ i = .int .i64 k ∧ Hid (V5 (rd k (0, r)).1 va vb vc vd ve) ∧ Hid (Lies wr (w.heap.size + 1) 25 #[.int .i64 ((x : Nat) : Int), .int .i64 va, .int .i64 vb, .int .i64 vc, .int .i64 vd, .int .i64 ve, .slice none 0 0]) ∧ Hid (Lies wr w.heap.size 25 #[.int .i64 0, .int .i64 0, .int .i64 0, .int .i64 0, .int .i64 0, .int .i64 0, .slice none 0 0]) ∧ Hid (Ob.RR wr g (rd k (0, r)).2) ∧ Hid (Below w.heap.size w wr)) (fun i _ => m - (RowKit.intOf i).toNat)
    case atStart => exact ⟨0, 0, 0, 0, 0, 0, Nat.zero_le _, rfl, V0, C3, R3, RD2, B3⟩
    case round =>
      clear V0 C3 R3 RD2 B3
      obtain ⟨k, va, vb, vc, vd, ve, hkm, rfl, VK, CK, RK, QK, BK⟩ := hrel
      by_cases hlt : k < m
      · have hk3 : (k : Int) < (m : Int) := by omega
        go_wp2_with fail
        refine (Ob.rgint_any _ _ _ QK.out).mono ?_
        rintro e w4 ⟨rfl, hq, ht⟩
        have Q4 := Lib.hid (show Ob.RR w4 g (rd (k + 1) (0, r)).2 from hq)
        have B4 := Lib.hid (ht.below BK.out BK.out.size (fun i hi => by have := SG.out; omega))
        have C4 := Lib.hid (CK.out.turn ht (by have := SG.out; omega))
        have R4 := Lib.hid (RK.out.turn ht (by have := SG.out; omega))
        have EZ : (rd (k + 1) (0, r)).1 = (rd k (0, r)).1 ++ [wrap64 (((Oc.rnum (rd k (0, r)).2 8).1 : Nat) : Int)] := by rw [rd_snoc]; simp [IntKind.wrap_i64, wrap64]
        have LK := rd_len k (0, r)
        generalize wrap64 (((Oc.rnum (rd k (0, r)).2 8).1 : Nat) : Int) = z at *
        have VN := Lib.hid (fun i => getD_snoc (rd k (0, r)).1 z i)
        rw [LK] at VN
        have HZ := Lib.hid EZ
        have SQ := Lib.hid (show ∀ (u : Value), Turn (fun i => i = w.heap.size + 1) w4 (w4.setCell ⟨w.heap.size + 1, 0, none⟩ u) → True from fun _ _ => trivial)
        clear hq ht EZ LK SQ QK BK CK RK
        have hk5 : k = 0 ∨ k = 1 ∨ k = 2 ∨ k = 3 ∨ k = 4 := by omega
        have hsm : ∀ j, j < m → (j : Int) < (m : Int) := fun j hj => by omega
        clear hsm
        rcases hk5 with rfl | rfl | rfl | rfl | rfl
        · have c1 : w4.cell? ⟨w.heap.size + 1, 1, none⟩ = some (.int .i64 va) := C4.out.cell 1
          have f1 := C4.out.frozen 1
          have CN : Hid (Lies (w4.setCell ⟨w.heap.size + 1, 1, none⟩ (.int .i64 z)) (w.heap.size + 1) 25 #[.int .i64 ((x : Nat) : Int), .int .i64 z, .int .i64 vb, .int .i64 vc, .int .i64 vd, .int .i64 ve, .slice none 0 0]) := Lib.hid (by simpa using C4.out.set_ 1 (.int .i64 z))
          have TN := (Turn.refl (fun i => i = w.heap.size + 1) w4).setCell (p := ⟨w.heap.size + 1, 1, none⟩) (.inl rfl) (.int .i64 z)
          have RN := Lib.hid (R4.out.turn TN (by omega))
          have QN := Lib.hid (Q4.out.turn TN (fun i hi => ⟨_, _, hi ▸ C4.out, noU8_7 _ _ _ _ _ _ _ _ _⟩) (by have := SG.out; omega))
          have BN := Lib.hid (B4.out.setCell (p := ⟨w.heap.size + 1, 1, none⟩) (Nat.le_succ _) (.int .i64 z))
          have V2 : Hid (V5 (rd (0 + 1) (0, r)).1 z vb vc vd ve) := Lib.hid (by
            obtain ⟨y0, y1, y2, y3, y4⟩ := VK.out
            rw [HZ.out]
            refine ⟨?_, ?_, ?_, ?_, ?_⟩ <;> rw [VN.out] <;> (first | exact if_pos rfl | (rw [if_neg (by decide)]; assumption)))
          clear TN C4 R4 Q4 B4 VK VN HZ
          go_wp2
          go_roundw
          case rel => exact ⟨1, z, vb, vc, vd, ve, by omega, by go_num, V2, CN, RN, QN, BN⟩
          case measure => simp [RowKit.intOf]; omega
        · have c2 : w4.cell? ⟨w.heap.size + 1, 2, none⟩ = some (.int .i64 vb) := C4.out.cell 2
          have f2 := C4.out.frozen 2
          have CN : Hid (Lies (w4.setCell ⟨w.heap.size + 1, 2, none⟩ (.int .i64 z)) (w.heap.size + 1) 25 #[.int .i64 ((x : Nat) : Int), .int .i64 va, .int .i64 z, .int .i64 vc, .int .i64 vd, .int .i64 ve, .slice none 0 0]) := Lib.hid (by simpa using C4.out.set_ 2 (.int .i64 z))
          have TN := (Turn.refl (fun i => i = w.heap.size + 1) w4).setCell (p := ⟨w.heap.size + 1, 2, none⟩) (.inl rfl) (.int .i64 z)
          have RN := Lib.hid (R4.out.turn TN (by omega))
          have QN := Lib.hid (Q4.out.turn TN (fun i hi => ⟨_, _, hi ▸ C4.out, noU8_7 _ _ _ _ _ _ _ _ _⟩) (by have := SG.out; omega))
          have BN := Lib.hid (B4.out.setCell (p := ⟨w.heap.size + 1, 2, none⟩) (Nat.le_succ _) (.int .i64 z))
          have V2 : Hid (V5 (rd (1 + 1) (0, r)).1 va z vc vd ve) := Lib.hid (by
            obtain ⟨y0, y1, y2, y3, y4⟩ := VK.out
            rw [HZ.out]
            refine ⟨?_, ?_, ?_, ?_, ?_⟩ <;> rw [VN.out] <;> (first | exact if_pos rfl | (rw [if_neg (by decide)]; assumption)))
          clear TN C4 R4 Q4 B4 VK VN HZ
          go_wp2
          go_roundw
          case rel => exact ⟨2, va, z, vc, vd, ve, by omega, by go_num, V2, CN, RN, QN, BN⟩
          case measure => simp [RowKit.intOf]; omega
        · have c3 : w4.cell? ⟨w.heap.size + 1, 3, none⟩ = some (.int .i64 vc) := C4.out.cell 3
          have f3 := C4.out.frozen 3
          have CN : Hid (Lies (w4.setCell ⟨w.heap.size + 1, 3, none⟩ (.int .i64 z)) (w.heap.size + 1) 25 #[.int .i64 ((x : Nat) : Int), .int .i64 va, .int .i64 vb, .int .i64 z, .int .i64 vd, .int .i64 ve, .slice none 0 0]) := Lib.hid (by simpa using C4.out.set_ 3 (.int .i64 z))
          have TN := (Turn.refl (fun i => i = w.heap.size + 1) w4).setCell (p := ⟨w.heap.size + 1, 3, none⟩) (.inl rfl) (.int .i64 z)
          have RN := Lib.hid (R4.out.turn TN (by omega))
          have QN := Lib.hid (Q4.out.turn TN (fun i hi => ⟨_, _, hi ▸ C4.out, noU8_7 _ _ _ _ _ _ _ _ _⟩) (by have := SG.out; omega))
          have BN := Lib.hid (B4.out.setCell (p := ⟨w.heap.size + 1, 3, none⟩) (Nat.le_succ _) (.int .i64 z))
          have V2 : Hid (V5 (rd (2 + 1) (0, r)).1 va vb z vd ve) := Lib.hid (by
            obtain ⟨y0, y1, y2, y3, y4⟩ := VK.out
            rw [HZ.out]
            refine ⟨?_, ?_, ?_, ?_, ?_⟩ <;> rw [VN.out] <;> (first | exact if_pos rfl | (rw [if_neg (by decide)]; assumption)))
          clear TN C4 R4 Q4 B4 VK VN HZ
          go_wp2
          go_roundw
          case rel => exact ⟨3, va, vb, z, vd, ve, by omega, by go_num, V2, CN, RN, QN, BN⟩
          case measure => simp [RowKit.intOf]; omega
        · have c4 : w4.cell? ⟨w.heap.size + 1, 4, none⟩ = some (.int .i64 vd) := C4.out.cell 4
          have f4 := C4.out.frozen 4
          have CN : Hid (Lies (w4.setCell ⟨w.heap.size + 1, 4, none⟩ (.int .i64 z)) (w.heap.size + 1) 25 #[.int .i64 ((x : Nat) : Int), .int .i64 va, .int .i64 vb, .int .i64 vc, .int .i64 z, .int .i64 ve, .slice none 0 0]) := Lib.hid (by simpa using C4.out.set_ 4 (.int .i64 z))
          have TN := (Turn.refl (fun i => i = w.heap.size + 1) w4).setCell (p := ⟨w.heap.size + 1, 4, none⟩) (.inl rfl) (.int .i64 z)
          have RN := Lib.hid (R4.out.turn TN (by omega))
          have QN := Lib.hid (Q4.out.turn TN (fun i hi => ⟨_, _, hi ▸ C4.out, noU8_7 _ _ _ _ _ _ _ _ _⟩) (by have := SG.out; omega))
          have BN := Lib.hid (B4.out.setCell (p := ⟨w.heap.size + 1, 4, none⟩) (Nat.le_succ _) (.int .i64 z))
          have V2 : Hid (V5 (rd (3 + 1) (0, r)).1 va vb vc z ve) := Lib.hid (by
            obtain ⟨y0, y1, y2, y3, y4⟩ := VK.out
            rw [HZ.out]
            refine ⟨?_, ?_, ?_, ?_, ?_⟩ <;> rw [VN.out] <;> (first | exact if_pos rfl | (rw [if_neg (by decide)]; assumption)))
          clear TN C4 R4 Q4 B4 VK VN HZ
          go_wp2
          go_roundw
          case rel => exact ⟨4, va, vb, vc, z, ve, by omega, by go_num, V2, CN, RN, QN, BN⟩
          case measure => simp [RowKit.intOf]; omega
        · have c5 : w4.cell? ⟨w.heap.size + 1, 5, none⟩ = some (.int .i64 ve) := C4.out.cell 5
          have f5 := C4.out.frozen 5
          have CN : Hid (Lies (w4.setCell ⟨w.heap.size + 1, 5, none⟩ (.int .i64 z)) (w.heap.size + 1) 25 #[.int .i64 ((x : Nat) : Int), .int .i64 va, .int .i64 vb, .int .i64 vc, .int .i64 vd, .int .i64 z, .slice none 0 0]) := Lib.hid (by simpa using C4.out.set_ 5 (.int .i64 z))
          have TN := (Turn.refl (fun i => i = w.heap.size + 1) w4).setCell (p := ⟨w.heap.size + 1, 5, none⟩) (.inl rfl) (.int .i64 z)
          have RN := Lib.hid (R4.out.turn TN (by omega))
          have QN := Lib.hid (Q4.out.turn TN (fun i hi => ⟨_, _, hi ▸ C4.out, noU8_7 _ _ _ _ _ _ _ _ _⟩) (by have := SG.out; omega))
          have BN := Lib.hid (B4.out.setCell (p := ⟨w.heap.size + 1, 5, none⟩) (Nat.le_succ _) (.int .i64 z))
          have V2 : Hid (V5 (rd (4 + 1) (0, r)).1 va vb vc vd z) := Lib.hid (by
            obtain ⟨y0, y1, y2, y3, y4⟩ := VK.out
            rw [HZ.out]
            refine ⟨?_, ?_, ?_, ?_, ?_⟩ <;> rw [VN.out] <;> (first | exact if_pos rfl | (rw [if_neg (by decide)]; assumption)))
          clear TN C4 R4 Q4 B4 VK VN HZ
          go_wp2
          go_roundw
          case rel => exact ⟨5, va, vb, vc, vd, z, by omega, by go_num, V2, CN, RN, QN, BN⟩
          case measure => simp [RowKit.intOf]; omega
      · obtain rfl : k = m := by omega
        by_cases hx0 : x = 0
        · subst hx0
          have hk0 : k = 0 := by
            have h1 := HM.out
            have h2 : cnt (((0 : Nat) : Nat) : Int) = 0 := by decide
            omega
          subst hk0
          have hrl : r.length + 1 = n := HA.out.1
          have BN := Lib.hid (rrun_le (rd 0 (0, r)).2)
          have c0 : wr.cell? ⟨w.heap.size + 1, 0, none⟩ = some (.int .i64 0) := CK.out.cell 0
          have O4 := Lib.hid (show (wr.alloc (.cells #[] 5)).ownsRow wr.heap.size 5 1 (.slice (some ⟨wr.heap.size, 0, none⟩) 0 0) 0 [] from World.ownsRow_made wr #[] 0 (Nat.le_refl _) (Nat.zero_le _) rfl)
          have E4 := Lib.hid (Lies.new wr 5 #[])
          have C4 := Lib.hid (CK.out.alloc (.cells #[] 5))
          have R4 := Lib.hid (RK.out.alloc (.cells #[] 5))
          have Q4 := Lib.hid (rr_below QK.out (alloc_below wr (.cells #[] 5)))
          have B4 := Lib.hid (BK.out.alloc BK.out.size (.cells #[] 5))
          have GL := Lib.hid QK.out.lt
          have z4 : (wr.alloc (.cells #[] 5)).heap.size = wr.heap.size + 1 := by simp
          have Z4 := Lib.hid z4
          clear CK RK QK BK z4
          go_wp2_with fail
          refine (Ob.rgrun_any _ _ _ Q4.out).mono ?_
          rintro e w5 ⟨v5, rfl, ho, hq, ht⟩
          obtain ⟨q5, d5, rfl, hd5, hA5⟩ := ho
          have Q5 := Lib.hid (show Ob.RR w5 g (Oc.rrun (rd 0 (0, r)).2).2 from hq)
          have B5 := Lib.hid (ht.below B4.out B4.out.size (fun i hi => by have := SG.out; omega))
          have C5 := Lib.hid (C4.out.turn ht (by have := SG.out; omega))
          have R5 := Lib.hid (R4.out.turn ht (by have := SG.out; omega))
          have O5 := Lib.hid (own_turn O4.out ht (fun b hb hg => by
            have h1 : wr.heap.size = b := Option.some.inj hb
            have h2 := GL.out
            omega))
          have E5 := Lib.hid (E4.out.turn ht (by have := GL.out; omega))
          have A5 := Lib.hid hA5
          have S5 := Lib.hid (show wr.heap.size ≤ w5.heap.size from by have h1 := ht.size; have h2 := Z4.out; omega)
          have GG := Lib.hid (show g < wr.heap.size from GL.out)
          have SC := Lib.hid (show w.heap.size + 1 < wr.heap.size from by have h1 := SG.out; have h2 := GL.out; omega)
          clear c0 hq ht hA5 C4 R4 Q4 B4 O4 E4 GL Z4
          go_upto_region 24 with (at_builtin; refine wpList_app rfl (.tmp 57) (.tmp 59) rfl wr.heap.size _ 0 [] rfl O5.out q5 _ d5 _ rfl A5.out (by have h1 := BN.out; have h2 : (rd 0 (0, r)).2.2.length = r.length := rfl; omega) S5.out ?_; intro v6 w6 hown6 hg6 hat6; obtain ⟨q6, d6, rfl⟩ := own_slice hown6; rw [Nat.zero_add, List.nil_append] at hown6; have O6 := Lib.hid hown6; have C6 := Lib.hid (C5.out.grown hg6 (fun e => by have h1 := (own_lt O5.out e.symm).1; have h2 := SC.out; omega)); have R6 := Lib.hid (R5.out.grown hg6 (fun e => by have h1 := (own_lt O5.out e.symm).1; have h2 := SC.out; omega)); have T6 := Lib.hid ((Turn.refl (fun i => wr.heap.size ≤ i) w5).grown hg6 (fun i hi => .inl (own_lt O5.out hi).1)); have c6 : w6.cell? ⟨w.heap.size + 1, 6, none⟩ = some (.slice none 0 0) := C6.out.cell 6; have f6 := C6.out.frozen 6; have HG := Lib.hid hg6; clear hown6 hg6 hat6)
          have L0 : (rd 0 (0, r)).2.2.length = r.length := rfl
          have BN2 := BN.out
          rw [L0] at BN2
          have RUN := Lib.hid (show runOf 0 (rd 0 (0, r)).2 = Oc.rrun (rd 0 (0, r)).2 from rfl)
          have Q6 := Lib.hid (rr_grown Q5.out HG.out E5.out (Nat.ne_of_lt GG.out))
          have B6 := Lib.hid (B5.out.grown HG.out B5.out.size (fun b hb => by
            have h1 : wr.heap.size = b := Option.some.inj hb
            have h2 := SC.out
            clear hb
            omega))
          obtain ⟨_, c7, e7, hd6, hA6⟩ := at_own rfl (by have := A5.out.2.1; exact this) O6.out
          cases e7
          have HO6 := Lib.hid hd6
          have T7 := (Turn.refl (fun i => i = w.heap.size + 1) w6).setCell (p := ⟨w.heap.size + 1, 6, none⟩) (.inl rfl) (.slice q6 (Oc.rrun (rd 0 (0, r)).2).1.length d6)
          have Cx : Hid (Lies (w6.setCell ⟨w.heap.size + 1, 6, none⟩ (.slice q6 (Oc.rrun (rd 0 (0, r)).2).1.length d6)) (w.heap.size + 1) 25 #[.int .i64 0, .int .i64 va, .int .i64 vb, .int .i64 vc, .int .i64 vd, .int .i64 ve, .slice q6 (Oc.rrun (rd 0 (0, r)).2).1.length d6]) := Lib.hid (by simpa using C6.out.set_ 6 (.slice q6 (Oc.rrun (rd 0 (0, r)).2).1.length d6))
          have Rx := Lib.hid (R6.out.turn T7 (by omega))
          have Qx := Lib.hid (Q6.out.turn T7 (fun i hi => ⟨_, _, hi ▸ C6.out, noU8_7 _ _ _ _ _ _ _ _ _⟩) (by have := SG.out; omega))
          have Bx := Lib.hid (B6.out.setCell (p := ⟨w.heap.size + 1, 6, none⟩) (Nat.le_succ _) (.slice q6 (Oc.rrun (rd 0 (0, r)).2).1.length d6))
          have Ox := Lib.hid (own_turn O6.out T7 (fun b hb he => by have h1 := (own_lt O6.out hb).1; have h2 := SC.out; omega))
          have HLN := Lib.hid (show (Oc.rrun (rd 0 (0, r)).2).1.length = (Oc.rrun (rd 0 (0, r)).2).1.length from rfl)
          have HLE := Lib.hid (show (Oc.rrun (rd 0 (0, r)).2).1.length ≤ 1000000 by omega)
          have HX5 := Lib.hid A5.out.2.1
          clear T7 C6 R6 Q6 B6 O6 hA6 hd6 c6 f6 Q5 B5 C5 R5 O5 A5 E5 S5 BN BN2 HG L0 hd5
          generalize w6.setCell ⟨w.heap.size + 1, 6, none⟩ (.slice q6 (Oc.rrun (rd 0 (0, r)).2).1.length d6) = w7 at *
          have RT := Lib.hid (fun W => r18right_any (⟨⟨0, va, vb, vc, vd, ve, (Oc.rrun (rd 0 (0, r)).2).1⟩, q6, (Oc.rrun (rd 0 (0, r)).2).1.length, d6⟩ : Cv) W HLN.out HLE.out)
          simp only [cval] at RT
          have DO := Lib.hid (fun W (h : Ob.RR W g ((Oc.rrun (rd 0 (0, r)).2).2)) => Ob.rend_any g ((Oc.rrun (rd 0 (0, r)).2).2) W h)
          obtain ⟨y0, y1, y2, y3, y4⟩ := VK.out
          have HD2 := HD.out
          unfold cmOf at HD2
          rw [y0, y1, y2, y3, y4, RUN.out] at HD2
          try simp only at HD2
          have HD3 := Lib.hid HD2
          clear HD2 y0 y1 y2 y3 y4 HD VK RUN HLN HLE
          generalize Oc.rdone ((Oc.rrun (rd 0 (0, r)).2).2) = dn at *
          generalize rightB (⟨0, va, vb, vc, vd, ve, (Oc.rrun (rd 0 (0, r)).2).1⟩ : Cm) = rb at *
          have c0 : w7.cell? ⟨w.heap.size + 1, 0, none⟩ = some (.int .i64 0) := Cx.out.cell 0
          have c1 : w7.cell? ⟨w.heap.size + 1, 1, none⟩ = some (.int .i64 va) := Cx.out.cell 1
          have c2 : w7.cell? ⟨w.heap.size + 1, 2, none⟩ = some (.int .i64 vb) := Cx.out.cell 2
          have c3 : w7.cell? ⟨w.heap.size + 1, 3, none⟩ = some (.int .i64 vc) := Cx.out.cell 3
          have c4 : w7.cell? ⟨w.heap.size + 1, 4, none⟩ = some (.int .i64 vd) := Cx.out.cell 4
          have c5 : w7.cell? ⟨w.heap.size + 1, 5, none⟩ = some (.int .i64 ve) := Cx.out.cell 5
          have c6 : w7.cell? ⟨w.heap.size + 1, 6, none⟩ = some (.slice (q6) ((Oc.rrun (rd 0 (0, r)).2).1.length) (d6)) := Cx.out.cell 6
          go_wp2_with fail
          refine (RT.out _).mono ?_
          rintro e w8 ⟨rfl, hb⟩
          have C8 := Lib.hid (Cx.out.below hb Cx.out.lt)
          have R8 := Lib.hid (Rx.out.below hb Rx.out.lt)
          have Q8 := Lib.hid (rr_below Qx.out hb)
          have B8 := Lib.hid (Bx.out.trans (hb.mono Bx.out.size))
          have A8 := Lib.hid (fun W (hW : Turn (fun i => i = w.heap.size) w8 W) => by
            have h1 := own_turn Ox.out ((Turn.of_below (S := fun i => i = w.heap.size) hb).trans hW (fun _ hi => .inl hi)) (fun b hb' he => by have h1 := (own_lt Ox.out hb').1; have h2 := SC.out; omega)
            obtain ⟨_, c7, e7, _, hA⟩ := at_own rfl HX5.out h1
            cases e7
            exact hA)
          clear hb Cx Rx Qx Bx RT  c0 c1 c2 c3 c4 c5 c6
          go_wp2_with fail
          refine (DO.out _ Q8.out).mono ?_
          rintro e w9 ⟨rfl, k9, hw9⟩
          have hb : Below w8.heap.size w8 w9 := hw9 ▸ ⟨rfl, rfl, rfl, Nat.le_refl _, fun _ _ => rfl⟩
          have ht : Turn (fun i => i = w.heap.size) w8 w9 := Turn.of_below hb
          have C9 := Lib.hid (C8.out.below hb C8.out.lt)
          have R9 := Lib.hid (R8.out.below hb R8.out.lt)
          have B9 := Lib.hid (B8.out.trans (hb.mono B8.out.size))
          have A9 := Lib.hid (fun W (hW : Turn (fun i => i = w.heap.size) w9 W) => A8.out W (ht.trans hW (fun _ hi => .inl hi)))
          clear hb ht hw9 C8 R8 Q8 B8 A8 DO
          have r0 : w9.cell? ⟨w.heap.size, 0, none⟩ = some (.int .i64 0) := R9.out.cell 0
          have rf0 := R9.out.frozen 0
          have r1 : w9.cell? ⟨w.heap.size, 1, none⟩ = some (.int .i64 0) := R9.out.cell 1
          have rf1 := R9.out.frozen 1
          have r2 : w9.cell? ⟨w.heap.size, 2, none⟩ = some (.int .i64 0) := R9.out.cell 2
          have rf2 := R9.out.frozen 2
          have r3 : w9.cell? ⟨w.heap.size, 3, none⟩ = some (.int .i64 0) := R9.out.cell 3
          have rf3 := R9.out.frozen 3
          have r4 : w9.cell? ⟨w.heap.size, 4, none⟩ = some (.int .i64 0) := R9.out.cell 4
          have rf4 := R9.out.frozen 4
          have r5 : w9.cell? ⟨w.heap.size, 5, none⟩ = some (.int .i64 0) := R9.out.cell 5
          have rf5 := R9.out.frozen 5
          have r6 : w9.cell? ⟨w.heap.size, 6, none⟩ = some (.slice none 0 0) := R9.out.cell 6
          have rf6 := R9.out.frozen 6
          by_cases hd : dn = 0
          · have u0 : (((dn : Nat) : Int) != 0) = false := by simp [hd]
            cases rb with
            | false =>
              have HE := Lib.hid (show dec (0 :: r) = (cm0, 2) by rw [HD3.out]; exact if_pos (.inr rfl))
              clear hd HD3 C9 R9 A9
              go_wp2
              refine bodyPost_ret (v := .tuple #[.agg #[.int .i64 0, .int .i64 0, .int .i64 0, .int .i64 0, .int .i64 0, .int .i64 0, .slice none 0 0], .int .i64 2]) (by simp [results, Tryd.results9, go_sem, r0, r1, r2, r3, r4, r5, r6]) rfl (dec_end0 HE.out ?_)
              iterate 7 refine Below.setCell ?_ (show w.heap.size ≤ _ from Nat.le_refl _) _
              exact B9.out
            | true =>
              have HE := Lib.hid (show dec (0 :: r) = ((⟨0, va, vb, vc, vd, ve, (Oc.rrun (rd 0 (0, r)).2).1⟩ : Cm), 0) by rw [HD3.out]; exact if_neg (fun h => by rcases h with h | h; exact h hd; cases h))
              have c0 : w9.cell? ⟨w.heap.size + 1, 0, none⟩ = some (.int .i64 0) := C9.out.cell 0
              have c1 : w9.cell? ⟨w.heap.size + 1, 1, none⟩ = some (.int .i64 va) := C9.out.cell 1
              have c2 : w9.cell? ⟨w.heap.size + 1, 2, none⟩ = some (.int .i64 vb) := C9.out.cell 2
              have c3 : w9.cell? ⟨w.heap.size + 1, 3, none⟩ = some (.int .i64 vc) := C9.out.cell 3
              have c4 : w9.cell? ⟨w.heap.size + 1, 4, none⟩ = some (.int .i64 vd) := C9.out.cell 4
              have c5 : w9.cell? ⟨w.heap.size + 1, 5, none⟩ = some (.int .i64 ve) := C9.out.cell 5
              have c6 : w9.cell? ⟨w.heap.size + 1, 6, none⟩ = some (.slice (q6) ((Oc.rrun (rd 0 (0, r)).2).1.length) (d6)) := C9.out.cell 6
              clear hd HD3 C9 R9
              go_wp2
              refine bodyPost_ret (v := .tuple #[.agg #[.int .i64 0, .int .i64 va, .int .i64 vb, .int .i64 vc, .int .i64 vd, .int .i64 ve, .slice (q6) ((Oc.rrun (rd 0 (0, r)).2).1.length) (d6)], .int .i64 0]) (by simp [results, Tryd.results9, go_sem, r0, r1, r2, r3, r4, r5, r6]) rfl (dec_end1 HE.out (A9.out _ ?_) HO6.out ?_)
              · iterate 7 refine Turn.setCell ?_ (by exact .inl rfl) _
                exact Turn.refl _ _
              · iterate 7 refine Below.setCell ?_ (show w.heap.size ≤ _ from Nat.le_refl _) _
                exact B9.out
          · have u0 : (((dn : Nat) : Int) != 0) = true := by simp [hd]
            have HE := Lib.hid (show dec (0 :: r) = (cm0, 2) by rw [HD3.out]; exact if_pos (.inl hd))
            clear hd HD3 C9 R9 A9
            go_wp2
            refine bodyPost_ret (v := .tuple #[.agg #[.int .i64 0, .int .i64 0, .int .i64 0, .int .i64 0, .int .i64 0, .int .i64 0, .slice none 0 0], .int .i64 2]) (by simp [results, Tryd.results9, go_sem, r0, r1, r2, r3, r4, r5, r6]) rfl (dec_end0 HE.out ?_)
            iterate 7 refine Below.setCell ?_ (show w.heap.size ≤ _ from Nat.le_refl _) _
            exact B9.out
        · have tx : (((x : Nat) : Int) == 0) = false := by rw [beq_eq_false_iff_ne]; omega
          have RUN := Lib.hid (show runOf x (rd k (0, r)).2 = ([], (rd k (0, r)).2) from by unfold runOf; rw [if_neg hx0])
          have HLN := Lib.hid (show ([] : List Nat).length = 0 from rfl)
          have HLE := Lib.hid (show 0 ≤ 1000000 by omega)
          have Cx := Lib.hid CK.out
          have Rx := Lib.hid RK.out
          have Qx := Lib.hid QK.out
          have Bx := Lib.hid BK.out
          clear CK RK QK BK hx0
          have RT := Lib.hid (fun W => r18right_any (⟨⟨((x : Nat) : Int), va, vb, vc, vd, ve, []⟩, none, 0, 0⟩ : Cv) W HLN.out HLE.out)
          simp only [cval] at RT
          have DO := Lib.hid (fun W (h : Ob.RR W g ((rd k (0, r)).2)) => Ob.rend_any g ((rd k (0, r)).2) W h)
          obtain ⟨y0, y1, y2, y3, y4⟩ := VK.out
          have HD2 := HD.out
          unfold cmOf at HD2
          rw [y0, y1, y2, y3, y4, RUN.out] at HD2
          try simp only at HD2
          have HD3 := Lib.hid HD2
          clear HD2 y0 y1 y2 y3 y4 HD VK RUN HLN HLE
          generalize Oc.rdone ((rd k (0, r)).2) = dn at *
          generalize rightB (⟨((x : Nat) : Int), va, vb, vc, vd, ve, []⟩ : Cm) = rb at *
          have c0 : wr.cell? ⟨w.heap.size + 1, 0, none⟩ = some (.int .i64 ((x : Nat) : Int)) := Cx.out.cell 0
          have c1 : wr.cell? ⟨w.heap.size + 1, 1, none⟩ = some (.int .i64 va) := Cx.out.cell 1
          have c2 : wr.cell? ⟨w.heap.size + 1, 2, none⟩ = some (.int .i64 vb) := Cx.out.cell 2
          have c3 : wr.cell? ⟨w.heap.size + 1, 3, none⟩ = some (.int .i64 vc) := Cx.out.cell 3
          have c4 : wr.cell? ⟨w.heap.size + 1, 4, none⟩ = some (.int .i64 vd) := Cx.out.cell 4
          have c5 : wr.cell? ⟨w.heap.size + 1, 5, none⟩ = some (.int .i64 ve) := Cx.out.cell 5
          have c6 : wr.cell? ⟨w.heap.size + 1, 6, none⟩ = some (.slice (none) (0) (0)) := Cx.out.cell 6
          go_wp2_with fail
          refine (RT.out _).mono ?_
          rintro e w8 ⟨rfl, hb⟩
          have C8 := Lib.hid (Cx.out.below hb Cx.out.lt)
          have R8 := Lib.hid (Rx.out.below hb Rx.out.lt)
          have Q8 := Lib.hid (rr_below Qx.out hb)
          have B8 := Lib.hid (Bx.out.trans (hb.mono Bx.out.size))
          have A8 := Lib.hid (fun W (hW : Turn (fun i => i = w.heap.size) w8 W) => (fun _ => at_nil W) hW)
          clear hb Cx Rx Qx Bx RT  c0 c1 c2 c3 c4 c5 c6
          go_wp2_with fail
          refine (DO.out _ Q8.out).mono ?_
          rintro e w9 ⟨rfl, k9, hw9⟩
          have hb : Below w8.heap.size w8 w9 := hw9 ▸ ⟨rfl, rfl, rfl, Nat.le_refl _, fun _ _ => rfl⟩
          have ht : Turn (fun i => i = w.heap.size) w8 w9 := Turn.of_below hb
          have C9 := Lib.hid (C8.out.below hb C8.out.lt)
          have R9 := Lib.hid (R8.out.below hb R8.out.lt)
          have B9 := Lib.hid (B8.out.trans (hb.mono B8.out.size))
          have A9 := Lib.hid (fun W (hW : Turn (fun i => i = w.heap.size) w9 W) => A8.out W (ht.trans hW (fun _ hi => .inl hi)))
          clear hb ht hw9 C8 R8 Q8 B8 A8 DO
          have r0 : w9.cell? ⟨w.heap.size, 0, none⟩ = some (.int .i64 0) := R9.out.cell 0
          have rf0 := R9.out.frozen 0
          have r1 : w9.cell? ⟨w.heap.size, 1, none⟩ = some (.int .i64 0) := R9.out.cell 1
          have rf1 := R9.out.frozen 1
          have r2 : w9.cell? ⟨w.heap.size, 2, none⟩ = some (.int .i64 0) := R9.out.cell 2
          have rf2 := R9.out.frozen 2
          have r3 : w9.cell? ⟨w.heap.size, 3, none⟩ = some (.int .i64 0) := R9.out.cell 3
          have rf3 := R9.out.frozen 3
          have r4 : w9.cell? ⟨w.heap.size, 4, none⟩ = some (.int .i64 0) := R9.out.cell 4
          have rf4 := R9.out.frozen 4
          have r5 : w9.cell? ⟨w.heap.size, 5, none⟩ = some (.int .i64 0) := R9.out.cell 5
          have rf5 := R9.out.frozen 5
          have r6 : w9.cell? ⟨w.heap.size, 6, none⟩ = some (.slice none 0 0) := R9.out.cell 6
          have rf6 := R9.out.frozen 6
          by_cases hd : dn = 0
          · have u0 : (((dn : Nat) : Int) != 0) = false := by simp [hd]
            cases rb with
            | false =>
              have HE := Lib.hid (show dec (x :: r) = (cm0, 2) by rw [HD3.out]; exact if_pos (.inr rfl))
              clear hd HD3 C9 R9 A9
              go_wp2
              refine bodyPost_ret (v := .tuple #[.agg #[.int .i64 0, .int .i64 0, .int .i64 0, .int .i64 0, .int .i64 0, .int .i64 0, .slice none 0 0], .int .i64 2]) (by simp [results, Tryd.results9, go_sem, r0, r1, r2, r3, r4, r5, r6]) rfl (dec_end0 HE.out ?_)
              iterate 7 refine Below.setCell ?_ (show w.heap.size ≤ _ from Nat.le_refl _) _
              exact B9.out
            | true =>
              have HE := Lib.hid (show dec (x :: r) = ((⟨((x : Nat) : Int), va, vb, vc, vd, ve, []⟩ : Cm), 0) by rw [HD3.out]; exact if_neg (fun h => by rcases h with h | h; exact h hd; cases h))
              have c0 : w9.cell? ⟨w.heap.size + 1, 0, none⟩ = some (.int .i64 ((x : Nat) : Int)) := C9.out.cell 0
              have c1 : w9.cell? ⟨w.heap.size + 1, 1, none⟩ = some (.int .i64 va) := C9.out.cell 1
              have c2 : w9.cell? ⟨w.heap.size + 1, 2, none⟩ = some (.int .i64 vb) := C9.out.cell 2
              have c3 : w9.cell? ⟨w.heap.size + 1, 3, none⟩ = some (.int .i64 vc) := C9.out.cell 3
              have c4 : w9.cell? ⟨w.heap.size + 1, 4, none⟩ = some (.int .i64 vd) := C9.out.cell 4
              have c5 : w9.cell? ⟨w.heap.size + 1, 5, none⟩ = some (.int .i64 ve) := C9.out.cell 5
              have c6 : w9.cell? ⟨w.heap.size + 1, 6, none⟩ = some (.slice (none) (0) (0)) := C9.out.cell 6
              clear hd HD3 C9 R9
              go_wp2
              refine bodyPost_ret (v := .tuple #[.agg #[.int .i64 ((x : Nat) : Int), .int .i64 va, .int .i64 vb, .int .i64 vc, .int .i64 vd, .int .i64 ve, .slice (none) (0) (0)], .int .i64 0]) (by simp [results, Tryd.results9, go_sem, r0, r1, r2, r3, r4, r5, r6]) rfl (dec_end1 HE.out (A9.out _ ?_) (Nat.le_refl _) ?_)
              · iterate 7 refine Turn.setCell ?_ (by exact .inl rfl) _
                exact Turn.refl _ _
              · iterate 7 refine Below.setCell ?_ (show w.heap.size ≤ _ from Nat.le_refl _) _
                exact B9.out
          · have u0 : (((dn : Nat) : Int) != 0) = true := by simp [hd]
            have HE := Lib.hid (show dec (x :: r) = (cm0, 2) by rw [HD3.out]; exact if_pos (.inl hd))
            clear hd HD3 C9 R9 A9
            go_wp2
            refine bodyPost_ret (v := .tuple #[.agg #[.int .i64 0, .int .i64 0, .int .i64 0, .int .i64 0, .int .i64 0, .int .i64 0, .slice none 0 0], .int .i64 2]) (by simp [results, Tryd.results9, go_sem, r0, r1, r2, r3, r4, r5, r6]) rfl (dec_end0 HE.out ?_)
            iterate 7 refine Below.setCell ?_ (show w.heap.size ≤ _ from Nat.le_refl _) _
            exact B9.out
theorem r18dec_any (p : Option Addr) (n cp : Nat) (l : List Nat) (w : World) (hA : At w p n l) (hn : n ≤ 1000000) (hnc : n ≤ cp) : Calls Tryd.prog 9 #[.slice p n cp] w (DecEnd w l) := by
  cases l with
  | nil =>
    obtain rfl : n = 0 := hA.1.symm
    exact r18dec_nil p cp w
  | cons x r => exact r18dec_cons p n cp x r w hA hn hnc
end Cm
end Go.Proofs.YtbahilakfgbgpaaDoor
