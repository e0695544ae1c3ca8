/- The live question of layer 17: it returns true. Conditions: the contracts of package cert. -/
import Derived.Test.YtklhapekfgcplaaCeFace
import Derived.WalkSpells
import Derived.WalkKit
import Derived.Deep.CutRange
namespace Go.Proofs.Ytklhapekfgcplaa
open Go.RowKit

namespace Ce
def nine : Ct := ⟨9, 1, 2, 3, 4, 5, 258, 300⟩
def nineL : List Nat := Ck.tight (raw nine)
theorem nine_right : rightB nine = true := by decide
theorem nine_len : nineL.length = 66 := by unfold nineL; rw [Ck.tight_length, raw_length]
theorem nine_lt : ∀ x ∈ nineL, x < 256 := Ck.tight_lt (raw_lt nine)
theorem nine_dec : dec nineL = (nine, 0) := dec_tight nine_right
theorem nine_54 : nineL.getD 54 0 = 1 := by decide +kernel
theorem nine_55 : nineL.getD 55 0 = 2 := by decide +kernel
theorem nine_cut : dec (nineL.take 65) = (ct0, 2) := by
  unfold dec
  rw [if_neg (by rw [List.length_take, nine_len]; decide)]
theorem nine_turned : dec (nineL.set 40 7) = (ct0, 3) := by
  unfold dec
  rw [if_pos (by rw [List.length_set, nine_len]), if_neg (by decide +kernel)]
theorem flag_no : flagF [(⟨1, 1, 2, 3, 4, 5, 258, 300⟩ : Ct)] [300] = [] := by decide
theorem flag_yes : flagF [(⟨1, 1, 2, 3, 4, 5, 258, 300⟩ : Ct)] [301, 5] = [1] := by decide
theorem one_int (w : World) (t : TypeId) (x : Int) : Rw 1 icells (w.alloc (.cells #[.int .i64 x] t)) (some ⟨w.heap.size, 0, none⟩) 1 [x] := by
  refine ⟨rfl, fun _ => ⟨w.heap.size, 0, rfl, fun j y hj i hi => ?_⟩⟩
  match j, hj, i, hi with
  | 0, hj, 0, _ =>
    simp only [List.getElem?_cons_zero, Option.some.injEq] at hj
    subst hj
    simp [icells]
theorem two_ints (w : World) (t : TypeId) (x y : Int) : Rw 1 icells (w.alloc (.cells #[.int .i64 x, .int .i64 y] t)) (some ⟨w.heap.size, 0, none⟩) 2 [x, y] := by
  refine ⟨rfl, fun _ => ⟨w.heap.size, 0, rfl, fun j z hj i hi => ?_⟩⟩
  match j, hj, i, hi with
  | 0, hj, 0, _ =>
    simp only [List.getElem?_cons_zero, Option.some.injEq] at hj
    subst hj
    simp [icells]
  | 1, hj, 0, _ =>
    simp at hj
    subst hj
    simp [icells]
set_option maxRecDepth 100000 in
set_option maxHeartbeats 16000000 in
theorem calive_any (I : Face) (w : World) : Calls Try.prog 6 #[] w fun e w' => e = .returned (.bool true) ∧ Below w.heap.size w w' := by
  have E1 := Lib.hid (fun W => show Calls Try.prog 8 #[.agg #[.int .i64 9, .int .i64 1, .int .i64 2, .int .i64 3, .int .i64 4, .int .i64 5, .int .i64 258, .int .i64 300]] W fun e w' => ∃ q d, e = .returned (.tuple #[.slice q 66 d, .int .i64 0]) ∧ w'.ownsRow W.heap.size 5 1 (.slice q 66 d) 66 (bys nineL) ∧ Below W.heap.size W w' from I.enc_yes nine W nine_right)
  have E2 := Lib.hid (fun W => show Calls Try.prog 8 #[.agg #[.int .i64 0, .int .i64 0, .int .i64 0, .int .i64 0, .int .i64 (-1), .int .i64 0, .int .i64 0, .int .i64 0]] W fun e w' => (∃ q d, e = .returned (.tuple #[.slice q 0 d, .int .i64 1])) ∧ Below W.heap.size W w' from I.enc_no ⟨0, 0, 0, 0, -1, 0, 0, 0⟩ W (by decide))
  have D1 := Lib.hid (fun p c W (hA : At W p 66 nineL) (hc : 66 ≤ c) => show Calls Try.prog 10 #[.slice p 66 c] W fun e w' => e = .returned (.tuple #[.agg #[.int .i64 9, .int .i64 1, .int .i64 2, .int .i64 3, .int .i64 4, .int .i64 5, .int .i64 258, .int .i64 300], .int .i64 0]) ∧ Below W.heap.size W w' from by
    have h1 := I.dec p 66 c nineL W hA (by decide) hc
    rw [nine_dec] at h1
    exact h1)
  have D2 := Lib.hid (fun p c W (hA : At W p 65 (nineL.take 65)) (hc : 65 ≤ c) => show Calls Try.prog 10 #[.slice p 65 c] W fun e w' => e = .returned (.tuple #[.agg #[.int .i64 0, .int .i64 0, .int .i64 0, .int .i64 0, .int .i64 0, .int .i64 0, .int .i64 0, .int .i64 0], .int .i64 2]) ∧ Below W.heap.size W w' from by
    have h1 := I.dec p 65 c (nineL.take 65) W hA (by decide) hc
    rw [nine_cut] at h1
    exact h1)
  have D3 := Lib.hid (fun p c W (hA : At W p 66 (nineL.set 40 7)) (hc : 66 ≤ c) => show Calls Try.prog 10 #[.slice p 66 c] W fun e w' => e = .returned (.tuple #[.agg #[.int .i64 0, .int .i64 0, .int .i64 0, .int .i64 0, .int .i64 0, .int .i64 0, .int .i64 0, .int .i64 0], .int .i64 3]) ∧ Below W.heap.size W w' from by
    have h1 := I.dec p 66 c (nineL.set 40 7) W hA (by decide) hc
    rw [nine_turned] at h1
    exact h1)
  have IS := Lib.hid (fun B h F W (hd : I.DB W B h F []) => show Calls Try.prog 15 #[.pointer (some ⟨h, 0, none⟩), .agg #[.int .i64 9, .int .i64 1, .int .i64 2, .int .i64 3, .int .i64 4, .int .i64 5, .int .i64 258, .int .i64 300]] W fun e w' => e = .returned (.tuple #[.int .i64 1, .int .i64 0]) ∧ Left I.DB W B h F [(⟨1, 1, 2, 3, 4, 5, 258, 300⟩ : Ct)] w' from I.issue B h F [] nine W hd good_nil (by decide))
  have G1 := Lib.hid (show Good [(⟨1, 1, 2, 3, 4, 5, 258, 300⟩ : Ct)] from good_nil.issued nine)
  have CE := Lib.hid (fun B h F W (hd : I.DB W B h F [(⟨1, 1, 2, 3, 4, 5, 258, 300⟩ : Ct)]) => show Calls Try.prog 17 #[.pointer (some ⟨h, 0, none⟩), .int .i64 1] W fun e w' => e = .returned (.tuple #[.agg #[.int .i64 1, .int .i64 1, .int .i64 2, .int .i64 3, .int .i64 4, .int .i64 5, .int .i64 258, .int .i64 300], .int .i64 0]) ∧ Below W.heap.size W w' from I.cert B h F [(⟨1, 1, 2, 3, 4, 5, 258, 300⟩ : Ct)] 1 W hd G1.out (by decide) (by constructor <;> decide))
  have F1 := Lib.hid (fun B h F (W : World) (hd : I.DB W B h F [(⟨1, 1, 2, 3, 4, 5, 258, 300⟩ : Ct)]) => I.flagged B h F [(⟨1, 1, 2, 3, 4, 5, 258, 300⟩ : Ct)] (some ⟨W.heap.size, 0, none⟩) 1 1 [300] (W.alloc (.cells #[.int .i64 300] 3)) (I.keep hd (alloc_below W _)) G1.out (by decide) (one_int W _ 300) (by decide) (Nat.le_refl _) (fun k hk hf => by
    obtain ⟨_, a, ha, rfl⟩ := hk
    cases ha
    have := (I.foot hd hf).2
    simp only at this
    omega))
  have F2 := Lib.hid (fun B h F (W : World) (hd : I.DB W B h F [(⟨1, 1, 2, 3, 4, 5, 258, 300⟩ : Ct)]) => I.flagged B h F [(⟨1, 1, 2, 3, 4, 5, 258, 300⟩ : Ct)] (some ⟨W.heap.size, 0, none⟩) 2 2 [301, 5] (W.alloc (.cells #[.int .i64 301, .int .i64 5] 3)) (I.keep hd (alloc_below W _)) G1.out (by decide) (two_ints W _ 301 5) (by decide) (Nat.le_refl _) (fun k hk hf => by
    obtain ⟨_, a, ha, rfl⟩ := hk
    cases ha
    have := (I.foot hd hf).2
    simp only at this
    omega))
  rw [flag_no] at F1
  rw [flag_yes] at F2
  have B0 := Lib.hid (alloc_below w (.cells #[.int .i64 9, .int .i64 1, .int .i64 2, .int .i64 3, .int .i64 4, .int .i64 5, .int .i64 258, .int .i64 300] 23))
  have C0 := Lib.hid (Lies.new w 23 #[.int .i64 9, .int .i64 1, .int .i64 2, .int .i64 3, .int .i64 4, .int .i64 5, .int .i64 258, .int .i64 300])
  have S54 := nine_54
  have S55 := nine_55
  have HL := Lib.hid nine_len
  have HX := Lib.hid nine_lt
  generalize nineL = L at *
  have H54 := Lib.hid S54
  have H55 := Lib.hid S55
  clear S54 S55
  have c0 : (w.alloc (.cells #[.int .i64 9, .int .i64 1, .int .i64 2, .int .i64 3, .int .i64 4, .int .i64 5, .int .i64 258, .int .i64 300] 23)).cell? ⟨w.heap.size, 0, none⟩ = some (.int .i64 9) := C0.out.cell 0
  have c1 : (w.alloc (.cells #[.int .i64 9, .int .i64 1, .int .i64 2, .int .i64 3, .int .i64 4, .int .i64 5, .int .i64 258, .int .i64 300] 23)).cell? ⟨w.heap.size, 1, none⟩ = some (.int .i64 1) := C0.out.cell 1
  have c2 : (w.alloc (.cells #[.int .i64 9, .int .i64 1, .int .i64 2, .int .i64 3, .int .i64 4, .int .i64 5, .int .i64 258, .int .i64 300] 23)).cell? ⟨w.heap.size, 2, none⟩ = some (.int .i64 2) := C0.out.cell 2
  have c3 : (w.alloc (.cells #[.int .i64 9, .int .i64 1, .int .i64 2, .int .i64 3, .int .i64 4, .int .i64 5, .int .i64 258, .int .i64 300] 23)).cell? ⟨w.heap.size, 3, none⟩ = some (.int .i64 3) := C0.out.cell 3
  have c4 : (w.alloc (.cells #[.int .i64 9, .int .i64 1, .int .i64 2, .int .i64 3, .int .i64 4, .int .i64 5, .int .i64 258, .int .i64 300] 23)).cell? ⟨w.heap.size, 4, none⟩ = some (.int .i64 4) := C0.out.cell 4
  have c5 : (w.alloc (.cells #[.int .i64 9, .int .i64 1, .int .i64 2, .int .i64 3, .int .i64 4, .int .i64 5, .int .i64 258, .int .i64 300] 23)).cell? ⟨w.heap.size, 5, none⟩ = some (.int .i64 5) := C0.out.cell 5
  have c6 : (w.alloc (.cells #[.int .i64 9, .int .i64 1, .int .i64 2, .int .i64 3, .int .i64 4, .int .i64 5, .int .i64 258, .int .i64 300] 23)).cell? ⟨w.heap.size, 6, none⟩ = some (.int .i64 258) := C0.out.cell 6
  have c7 : (w.alloc (.cells #[.int .i64 9, .int .i64 1, .int .i64 2, .int .i64 3, .int .i64 4, .int .i64 5, .int .i64 258, .int .i64 300] 23)).cell? ⟨w.heap.size, 7, none⟩ = some (.int .i64 300) := C0.out.cell 7
  go_enter Try.func6, Try.ntmps6
  go_wp2_with fail
  refine (E1.out _).mono ?_
  rintro e w1 ⟨q, cap, rfl, ho, hb⟩
  obtain ⟨g, cap', e1, hg1, hg2, hcap⟩ := own_some ho (by decide)
  cases e1
  have OB := Lib.hid ho
  have hgw := Lib.hid (show w.heap.size < g from by simp at hg1; omega)
  have B1 := Lib.hid (B0.out.trans (hb.mono B0.out.size))
  have C1 := Lib.hid (C0.out.below hb C0.out.lt)
  have hcap3 : (66 : Int) ≤ (cap : Int) := by omega
  have HC := Lib.hid hcap
  have AT := Lib.hid (fun W (hW : Below w1.heap.size w1 W) => by
    obtain ⟨q', c', e', _, hA⟩ := at_own HL.out HX.out OB.out
    cases e'
    exact hA.keep hW)
  clear ho hb hg1 hcap c0 c1 c2 c3 c4 c5 c6 c7 E1 C0 B0
  go_wp2_with fail
  refine (D1.out _ _ _ (AT.out _ (Below.refl _ _)) HC.out).mono ?_
  rintro e w2 ⟨rfl, hb⟩
  have gw2' := Lib.hid (show g < w2.heap.size from by have := hb.size; omega)
  have D9 := Lib.hid (Lies.new w2 23 #[.int .i64 9, .int .i64 1, .int .i64 2, .int .i64 3, .int .i64 4, .int .i64 5, .int .i64 258, .int .i64 300])
  have R3 := Lib.hid (hb.alloc hb.size (.cells #[.int .i64 9, .int .i64 1, .int .i64 2, .int .i64 3, .int .i64 4, .int .i64 5, .int .i64 258, .int .i64 300] 23))
  clear hb D1
  go_wp2_with fail
  refine (E2.out _).mono ?_
  rintro e w3 ⟨⟨q6, d6, rfl⟩, hb⟩
  have R4 := Lib.hid (R3.out.trans (hb.mono R3.out.size))
  have D10 := Lib.hid (D9.out.below hb D9.out.lt)
  clear hb E2 R3 D9
  go_wp2_with fail
  refine (I.new _).mono ?_
  rintro e w4 ⟨h, F, rfl, hd, hb⟩
  have R5 := Lib.hid (R4.out.trans (hb.mono R4.out.size))
  have D11 := Lib.hid (D10.out.below hb D10.out.lt)
  have DB := Lib.hid hd
  have FB := Lib.hid (fun k (hk : F k) => (I.foot hd hk).1)
  have s34 := Lib.hid hb.size
  have s13 := Lib.hid R4.out.size
  have s23 := Lib.hid D10.out.lt
  clear hb hd R4 D10
  have C4 := Lib.hid (C1.out.below R5.out C1.out.lt)
  have c0 : w4.cell? ⟨w.heap.size, 0, none⟩ = some (.int .i64 9) := C4.out.cell 0
  have c1 : w4.cell? ⟨w.heap.size, 1, none⟩ = some (.int .i64 1) := C4.out.cell 1
  have c2 : w4.cell? ⟨w.heap.size, 2, none⟩ = some (.int .i64 2) := C4.out.cell 2
  have c3 : w4.cell? ⟨w.heap.size, 3, none⟩ = some (.int .i64 3) := C4.out.cell 3
  have c4 : w4.cell? ⟨w.heap.size, 4, none⟩ = some (.int .i64 4) := C4.out.cell 4
  have c5 : w4.cell? ⟨w.heap.size, 5, none⟩ = some (.int .i64 5) := C4.out.cell 5
  have c6 : w4.cell? ⟨w.heap.size, 6, none⟩ = some (.int .i64 258) := C4.out.cell 6
  have c7 : w4.cell? ⟨w.heap.size, 7, none⟩ = some (.int .i64 300) := C4.out.cell 7
  go_wp2_with fail
  refine (IS.out _ h F _ DB.out).mono ?_
  rintro e w5 ⟨rfl, F5, hd, ht, hf⟩
  have DB5 := Lib.hid hd
  have s45 := Lib.hid ht.size
  have R6 := Lib.hid (ht.below R5.out R5.out.size (fun i hi => Nat.le_trans s13.out (FB.out i hi)))
  have FB5 := Lib.hid (show ∀ k, F5 k → w3.heap.size ≤ k from fun k hk => by
    rcases hf k hk with h1 | h1
    · exact FB.out k h1
    · have h4 := s34.out
      omega)
  have D12 := Lib.hid (D11.out.turn ht (fun hf => by
    have h1 := FB.out _ hf
    have h2 := s23.out
    omega))
  have C5 := Lib.hid (C1.out.below R6.out C1.out.lt)
  clear hd ht hf IS DB FB R5 D11 C4 c0 c1 c2 c3 c4 c5 c6 c7
  go_wp2_with fail
  refine (CE.out _ h F5 _ DB5.out).mono ?_
  rintro e w6 ⟨rfl, hb⟩
  have X6 := Lib.hid (Lies.new w6 23 #[.int .i64 1, .int .i64 1, .int .i64 2, .int .i64 3, .int .i64 4, .int .i64 5, .int .i64 258, .int .i64 300])
  have R7 := Lib.hid ((R6.out.trans (hb.mono R6.out.size)).alloc (R6.out.trans (hb.mono R6.out.size)).size (.cells #[.int .i64 1, .int .i64 1, .int .i64 2, .int .i64 3, .int .i64 4, .int .i64 5, .int .i64 258, .int .i64 300] 23))
  have D13 := Lib.hid ((D12.out.below hb D12.out.lt).alloc (.cells #[.int .i64 1, .int .i64 1, .int .i64 2, .int .i64 3, .int .i64 4, .int .i64 5, .int .i64 258, .int .i64 300] 23))
  have DB6 := Lib.hid (I.keep (I.keep DB5.out hb) (alloc_below w6 (.cells #[.int .i64 1, .int .i64 1, .int .i64 2, .int .i64 3, .int .i64 4, .int .i64 5, .int .i64 258, .int .i64 300] 23)))
  have s36 := Lib.hid (show w3.heap.size ≤ w6.heap.size from by
    have h1 := R6.out.size
    have h2 := hb.size
    have h3 := D12.out.lt
    have h4 := s45.out
    have h5 := s34.out
    omega)
  clear hb CE R6 D12 DB5 C5
  go_wp2_with fail
  refine (D2.out _ _ _ ((AT.out _ R7.out).take 65 (by decide)) (by have := HC.out; omega)).mono ?_
  rintro e w7 ⟨rfl, hb⟩
  have R8 := Lib.hid ((R7.out.trans (hb.mono R7.out.size)).alloc (R7.out.trans (hb.mono R7.out.size)).size (.cells #[.int .i64 0, .int .i64 0, .int .i64 0, .int .i64 0, .int .i64 0, .int .i64 0, .int .i64 0, .int .i64 0] 23))
  have D14 := Lib.hid ((D13.out.below hb D13.out.lt).alloc (.cells #[.int .i64 0, .int .i64 0, .int .i64 0, .int .i64 0, .int .i64 0, .int .i64 0, .int .i64 0, .int .i64 0] 23))
  have X7 := Lib.hid ((X6.out.below hb X6.out.lt).alloc (.cells #[.int .i64 0, .int .i64 0, .int .i64 0, .int .i64 0, .int .i64 0, .int .i64 0, .int .i64 0, .int .i64 0] 23))
  have DB7 := Lib.hid (I.keep (I.keep DB6.out hb) (alloc_below w7 (.cells #[.int .i64 0, .int .i64 0, .int .i64 0, .int .i64 0, .int .i64 0, .int .i64 0, .int .i64 0, .int .i64 0] 23)))
  have C7 := Lib.hid (C1.out.below R8.out C1.out.lt)
  have O7 := Lib.hid (own_turn OB.out (Turn.of_below (S := fun _ => False) R8.out) (fun _ _ hf => hf))
  have B7 := Lib.hid (B1.out.trans (R8.out.mono B1.out.size))
  clear hb D2 R7 D13 X6 DB6 AT
  have k40 := own_cell O7.out HL.out (i := 40) (by decide)
  have f40 := O7.out.frozenAt 40
  go_upto_region 12 with fail
  have O8 := Lib.hid (show ((w7.alloc (.cells #[.int .i64 0, .int .i64 0, .int .i64 0, .int .i64 0, .int .i64 0, .int .i64 0, .int .i64 0, .int .i64 0] 23)).setCell ⟨g, 40, none⟩ (.int .u8 7)).ownsRow _ 5 1 (.slice (some ⟨g, 0, none⟩) 66 cap) 66 (bys (L.set 40 7)) from own_store O7.out 40 7)
  have T8 := Lib.hid ((Turn.refl (fun k => k = g) (w7.alloc (.cells #[.int .i64 0, .int .i64 0, .int .i64 0, .int .i64 0, .int .i64 0, .int .i64 0, .int .i64 0, .int .i64 0] 23))).setCell (p := ⟨g, 40, none⟩) (.inl rfl) (.int .u8 7))
  have C8 := Lib.hid (C7.out.turn T8.out (by have := hgw.out; omega))
  have gw2 := Lib.hid (show g < w2.heap.size from gw2'.out)
  have D15 := Lib.hid (D14.out.turn T8.out (by have := gw2.out; omega))
  have X8 := Lib.hid (X7.out.turn T8.out (by
    have h1 := gw2.out
    have h2 := s36.out
    have h3 := s23.out
    omega))
  have DB8 := Lib.hid (I.turn DB7.out T8.out (fun k hk e => by
    have h1 := gw2.out
    have h2 := FB5.out k hk
    have h3 := s23.out
    omega))
  have B8 := Lib.hid (B7.out.setCell (p := ⟨g, 40, none⟩) (Nat.le_of_lt hgw.out) (.int .u8 7))
  clear k40 f40 O7 T8 C7 D14 X7 DB7 B7
  generalize (w7.alloc (.cells #[.int .i64 0, .int .i64 0, .int .i64 0, .int .i64 0, .int .i64 0, .int .i64 0, .int .i64 0, .int .i64 0] 23)).setCell ⟨g, 40, none⟩ (.int .u8 7) = w8 at *
  have A8 := Lib.hid (show At w8 (some ⟨g, 0, none⟩) 66 (L.set 40 7) from by
    obtain ⟨q', c', e', _, hA⟩ := at_own (by rw [List.length_set]; exact HL.out) (fun x hx => by
      rcases List.mem_or_eq_of_mem_set hx with h1 | h1
      · exact HX.out x h1
      · omega) O8.out
    cases e'
    exact hA)
  go_wp2_with fail
  refine (D3.out _ _ _ A8.out HC.out).mono ?_
  rintro e w9 ⟨rfl, hb⟩
  have C9 := Lib.hid ((C8.out.below hb C8.out.lt).alloc (.cells #[.int .i64 0, .int .i64 0, .int .i64 0, .int .i64 0, .int .i64 0, .int .i64 0, .int .i64 0, .int .i64 0] 23))
  have D16 := Lib.hid ((D15.out.below hb D15.out.lt).alloc (.cells #[.int .i64 0, .int .i64 0, .int .i64 0, .int .i64 0, .int .i64 0, .int .i64 0, .int .i64 0, .int .i64 0] 23))
  have X9 := Lib.hid ((X8.out.below hb X8.out.lt).alloc (.cells #[.int .i64 0, .int .i64 0, .int .i64 0, .int .i64 0, .int .i64 0, .int .i64 0, .int .i64 0, .int .i64 0] 23))
  have DB9 := Lib.hid (I.keep (I.keep DB8.out hb) (alloc_below w9 (.cells #[.int .i64 0, .int .i64 0, .int .i64 0, .int .i64 0, .int .i64 0, .int .i64 0, .int .i64 0, .int .i64 0] 23)))
  have B9 := Lib.hid ((B8.out.trans (hb.mono B8.out.size)).alloc (B8.out.trans (hb.mono B8.out.size)).size (.cells #[.int .i64 0, .int .i64 0, .int .i64 0, .int .i64 0, .int .i64 0, .int .i64 0, .int .i64 0, .int .i64 0] 23))
  have O9 := Lib.hid (own_turn O8.out (Turn.of_below (S := fun _ => False) (hb.alloc hb.size (.cells #[.int .i64 0, .int .i64 0, .int .i64 0, .int .i64 0, .int .i64 0, .int .i64 0, .int .i64 0, .int .i64 0] 23))) (fun _ _ hf => hf))
  have s6w := Lib.hid (show w.heap.size < w6.heap.size from by
    have h1 := hgw.out
    have h2 := gw2.out
    have h3 := s23.out
    have h4 := s36.out
    omega)
  clear hb D3 C8 D15 X8 DB8 B8 O8 A8
  go_upto_region 13 with fail
  generalize (w9.alloc (.cells #[.int .i64 0, .int .i64 0, .int .i64 0, .int .i64 0, .int .i64 0, .int .i64 0, .int .i64 0, .int .i64 0] 23)) = wA at *
  have a0 : wA.cell? ⟨w.heap.size, 0, none⟩ = some (.int .i64 9) := C9.out.cell 0
  have f0 : wA.frozen? ⟨w.heap.size, 0, none⟩ = false := C9.out.frozen 0
  go_upto_region 14 with fail
  clear a0 f0
  have C10 : Hid (Lies (wA.setCell ⟨w.heap.size, 0, none⟩ (.int .i64 1)) w.heap.size 23 #[.int .i64 1, .int .i64 1, .int .i64 2, .int .i64 3, .int .i64 4, .int .i64 5, .int .i64 258, .int .i64 300]) := Lib.hid (by simpa using C9.out.set_ 0 (.int .i64 1))
  have T10 := Lib.hid ((Turn.refl (fun k => k = w.heap.size) wA).setCell (p := ⟨w.heap.size, 0, none⟩) (.inl rfl) (.int .i64 1))
  have D17 := Lib.hid (D16.out.turn T10.out (by
    have h1 := hgw.out
    have h2 := gw2.out
    omega))
  have X10 := Lib.hid (X9.out.turn T10.out (by have := s6w.out; omega))
  have O10 := Lib.hid (own_turn O9.out T10.out (fun k hk e => by
    have h1 : g = k := Option.some.inj hk
    have h2 := hgw.out
    omega))
  have DB10 := Lib.hid (I.turn DB9.out T10.out (fun k hk e => by
    have h1 := FB5.out k hk
    have h2 := hgw.out
    have h3 := gw2.out
    have h4 := s23.out
    omega))
  have B10 := Lib.hid (B9.out.setCell (p := ⟨w.heap.size, 0, none⟩) (Nat.le_refl _) (.int .i64 1))
  have hsl : (L.set 40 7).length = 66 := by rw [List.length_set]; exact HL.out
  have k54 := own_cell O10.out hsl (i := 54) (by decide)
  rw [show (L.set 40 7).getD 54 0 = 1 by rw [List.getD_eq_getElem?_getD, List.getElem?_set_ne (by decide), ← List.getD_eq_getElem?_getD, H54.out]] at k54
  have k55 := own_cell O10.out hsl (i := 55) (by decide)
  rw [show (L.set 40 7).getD 55 0 = 2 by rw [List.getD_eq_getElem?_getD, List.getElem?_set_ne (by decide), ← List.getD_eq_getElem?_getD, H55.out]] at k55
  have j54 : (wA.setCell ⟨w.heap.size, 0, none⟩ (.int .i64 1)).cell? ⟨g, 54, none⟩ = some (.int .u8 1) := k54
  have j55 : (wA.setCell ⟨w.heap.size, 0, none⟩ (.int .i64 1)).cell? ⟨g, 55, none⟩ = some (.int .u8 2) := k55
  clear k54 k55
  have d0 : (wA.setCell ⟨w.heap.size, 0, none⟩ (.int .i64 1)).cell? ⟨w2.heap.size, 0, none⟩ = some (.int .i64 9) := D17.out.cell 0
  have d6 : (wA.setCell ⟨w.heap.size, 0, none⟩ (.int .i64 1)).cell? ⟨w2.heap.size, 6, none⟩ = some (.int .i64 258) := D17.out.cell 6
  have c0 : (wA.setCell ⟨w.heap.size, 0, none⟩ (.int .i64 1)).cell? ⟨w.heap.size, 0, none⟩ = some (.int .i64 1) := C10.out.cell 0
  have c1 : (wA.setCell ⟨w.heap.size, 0, none⟩ (.int .i64 1)).cell? ⟨w.heap.size, 1, none⟩ = some (.int .i64 1) := C10.out.cell 1
  have c2 : (wA.setCell ⟨w.heap.size, 0, none⟩ (.int .i64 1)).cell? ⟨w.heap.size, 2, none⟩ = some (.int .i64 2) := C10.out.cell 2
  have c3 : (wA.setCell ⟨w.heap.size, 0, none⟩ (.int .i64 1)).cell? ⟨w.heap.size, 3, none⟩ = some (.int .i64 3) := C10.out.cell 3
  have c4 : (wA.setCell ⟨w.heap.size, 0, none⟩ (.int .i64 1)).cell? ⟨w.heap.size, 4, none⟩ = some (.int .i64 4) := C10.out.cell 4
  have c5 : (wA.setCell ⟨w.heap.size, 0, none⟩ (.int .i64 1)).cell? ⟨w.heap.size, 5, none⟩ = some (.int .i64 5) := C10.out.cell 5
  have c6 : (wA.setCell ⟨w.heap.size, 0, none⟩ (.int .i64 1)).cell? ⟨w.heap.size, 6, none⟩ = some (.int .i64 258) := C10.out.cell 6
  have c7 : (wA.setCell ⟨w.heap.size, 0, none⟩ (.int .i64 1)).cell? ⟨w.heap.size, 7, none⟩ = some (.int .i64 300) := C10.out.cell 7
  have x0 : (wA.setCell ⟨w.heap.size, 0, none⟩ (.int .i64 1)).cell? ⟨w6.heap.size, 0, none⟩ = some (.int .i64 1) := X10.out.cell 0
  have x1 : (wA.setCell ⟨w.heap.size, 0, none⟩ (.int .i64 1)).cell? ⟨w6.heap.size, 1, none⟩ = some (.int .i64 1) := X10.out.cell 1
  have x2 : (wA.setCell ⟨w.heap.size, 0, none⟩ (.int .i64 1)).cell? ⟨w6.heap.size, 2, none⟩ = some (.int .i64 2) := X10.out.cell 2
  have x3 : (wA.setCell ⟨w.heap.size, 0, none⟩ (.int .i64 1)).cell? ⟨w6.heap.size, 3, none⟩ = some (.int .i64 3) := X10.out.cell 3
  have x4 : (wA.setCell ⟨w.heap.size, 0, none⟩ (.int .i64 1)).cell? ⟨w6.heap.size, 4, none⟩ = some (.int .i64 4) := X10.out.cell 4
  have x5 : (wA.setCell ⟨w.heap.size, 0, none⟩ (.int .i64 1)).cell? ⟨w6.heap.size, 5, none⟩ = some (.int .i64 5) := X10.out.cell 5
  have x6 : (wA.setCell ⟨w.heap.size, 0, none⟩ (.int .i64 1)).cell? ⟨w6.heap.size, 6, none⟩ = some (.int .i64 258) := X10.out.cell 6
  have x7 : (wA.setCell ⟨w.heap.size, 0, none⟩ (.int .i64 1)).cell? ⟨w6.heap.size, 7, none⟩ = some (.int .i64 300) := X10.out.cell 7
  generalize (wA.setCell ⟨w.heap.size, 0, none⟩ (.int .i64 1)) = wB at *
  clear C9 C10 T10 D16 D17 X9 X10 O9 O10 DB9 B9 hsl HX HL hg2 H54 H55 hgw s34 s13 s23 s45 s36 gw2 s6w C1 B1 HC
  go_wp2_with fail
  refine (F1.out _ h F5 _ DB10.out).mono ?_
  rintro e w10 ⟨v, rfl, ho, hb⟩
  obtain ⟨q1, d1, rfl⟩ := own_slice ho
  have DB11 := Lib.hid (I.keep (I.keep DB10.out (alloc_below _ _)) hb)
  have B11 := Lib.hid ((B10.out.alloc B10.out.size _).trans (hb.mono (B10.out.alloc B10.out.size _).size))
  clear ho hb F1 DB10 B10 j54 j55 d0 d6 c0 c1 c2 c3 c4 c5 c6 c7 x0 x1 x2 x3 x4 x5 x6 x7
  go_wp2_with fail
  refine (F2.out _ h F5 _ DB11.out).mono ?_
  rintro e w11 ⟨v, rfl, ho, hb⟩
  obtain ⟨q2, d2, rfl⟩ := own_slice ho
  have B12 := Lib.hid ((B11.out.alloc B11.out.size _).trans (hb.mono (B11.out.alloc B11.out.size _).size))
  clear ho hb F2 DB11 B11
  go_wp2
  go_ret
  exact ⟨rfl, B12.out⟩
end Ce
end Go.Proofs.Ytklhapekfgcplaa
