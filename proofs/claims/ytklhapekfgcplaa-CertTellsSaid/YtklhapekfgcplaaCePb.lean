/- Walks over package cert: a certificate's bytes, and the certificate of bytes. No condition but those written. -/
import Derived.Test.YtklhapekfgcplaaCePa
import Derived.Test.YtklhapekfgcplaaOb3
import Derived.Test.YtklhapekfgcplaaCk2
namespace Go.Proofs.Ytklhapekfgcplaa
open Go.RowKit

namespace Ce
set_option maxRecDepth 100000 in
set_option maxHeartbeats 8000000 in
theorem penc_no (c : Ct) (w : World) (h : rightB c = false) :
    Calls Try.prog 8 #[cval c] w fun e w' => (∃ q d, e = .returned (.tuple #[.slice q 0 d, .int .i64 1])) ∧ Below w.heap.size w w' := by
  have R := Lib.hid (fun W => pright_any c W)
  rw [h] at R
  obtain ⟨ka, kb, kc, kd, ke, kf, kg, kh⟩ := c
  simp only [cval] at R ⊢
  have B0 := Lib.hid (alloc_below w (.cells #[.int .i64 ka, .int .i64 kb, .int .i64 kc, .int .i64 kd, .int .i64 ke, .int .i64 kf, .int .i64 kg, .int .i64 kh] 23))
  have X0 := Lib.hid (Lies.new w 23 #[.int .i64 ka, .int .i64 kb, .int .i64 kc, .int .i64 kd, .int .i64 ke, .int .i64 kf, .int .i64 kg, .int .i64 kh])
  have x0 : (w.alloc (.cells #[.int .i64 ka, .int .i64 kb, .int .i64 kc, .int .i64 kd, .int .i64 ke, .int .i64 kf, .int .i64 kg, .int .i64 kh] 23)).cell? ⟨w.heap.size, 0, none⟩ = some (.int .i64 ka) := X0.out.cell 0
  have x1 : (w.alloc (.cells #[.int .i64 ka, .int .i64 kb, .int .i64 kc, .int .i64 kd, .int .i64 ke, .int .i64 kf, .int .i64 kg, .int .i64 kh] 23)).cell? ⟨w.heap.size, 1, none⟩ = some (.int .i64 kb) := X0.out.cell 1
  have x2 : (w.alloc (.cells #[.int .i64 ka, .int .i64 kb, .int .i64 kc, .int .i64 kd, .int .i64 ke, .int .i64 kf, .int .i64 kg, .int .i64 kh] 23)).cell? ⟨w.heap.size, 2, none⟩ = some (.int .i64 kc) := X0.out.cell 2
  have x3 : (w.alloc (.cells #[.int .i64 ka, .int .i64 kb, .int .i64 kc, .int .i64 kd, .int .i64 ke, .int .i64 kf, .int .i64 kg, .int .i64 kh] 23)).cell? ⟨w.heap.size, 3, none⟩ = some (.int .i64 kd) := X0.out.cell 3
  have x4 : (w.alloc (.cells #[.int .i64 ka, .int .i64 kb, .int .i64 kc, .int .i64 kd, .int .i64 ke, .int .i64 kf, .int .i64 kg, .int .i64 kh] 23)).cell? ⟨w.heap.size, 4, none⟩ = some (.int .i64 ke) := X0.out.cell 4
  have x5 : (w.alloc (.cells #[.int .i64 ka, .int .i64 kb, .int .i64 kc, .int .i64 kd, .int .i64 ke, .int .i64 kf, .int .i64 kg, .int .i64 kh] 23)).cell? ⟨w.heap.size, 5, none⟩ = some (.int .i64 kf) := X0.out.cell 5
  have x6 : (w.alloc (.cells #[.int .i64 ka, .int .i64 kb, .int .i64 kc, .int .i64 kd, .int .i64 ke, .int .i64 kf, .int .i64 kg, .int .i64 kh] 23)).cell? ⟨w.heap.size, 6, none⟩ = some (.int .i64 kg) := X0.out.cell 6
  have x7 : (w.alloc (.cells #[.int .i64 ka, .int .i64 kb, .int .i64 kc, .int .i64 kd, .int .i64 ke, .int .i64 kf, .int .i64 kg, .int .i64 kh] 23)).cell? ⟨w.heap.size, 7, none⟩ = some (.int .i64 kh) := X0.out.cell 7
  clear h X0
  go_enter Try.func8, Try.ntmps8
  go_wp2_with fail
  refine (R.out _).mono ?_
  rintro e w1 ⟨rfl, hb⟩
  have B1 := Lib.hid (B0.out.trans (hb.mono B0.out.size))
  clear hb B0 R x0 x1 x2 x3 x4 x5 x6 x7
  go_wp2
  go_ret2
  exact ⟨⟨_, _, rfl⟩, B1.out⟩
theorem pwnum_eight {l : List Nat} {n : Nat} (hn : n ≤ 4611686018427387904) : Oc.wnum (some l) n 8 = some (l ++ Oc.be 8 n) := by
  rw [Oc.wnum_yes l (Oc.fit_mk (by omega) (by omega) (by simp; omega))]
  rfl
def upto (c : Ct) (j : Nat) : List Nat := ((fld c).take j).flatMap fun n => Oc.be 8 n.toNat
theorem upto_len (c : Ct) (j : Nat) : (upto c j).length ≤ 64 := by
  unfold upto
  rw [flat_eight, List.length_take]
  have : (fld c).length = 8 := rfl
  omega
theorem upto_next {c : Ct} (h : rightB c = true) {j : Nat} {x : Int} (hx : (fld c)[j]? = some x) : IntKind.u64.wrap x = (x.toNat : Int) ∧ Oc.wnum (some (upto c j)) x.toNat 8 = some (upto c (j + 1)) := by
  have hr := right_iff.1 h x (List.mem_of_getElem? hx)
  refine ⟨?_, ?_⟩
  · rw [IntWalk.u64_in _ (by omega)]
    omega
  · rw [pwnum_eight (by omega)]
    unfold upto
    rw [List.take_add_one, hx, List.flatMap_append]
    simp
set_option maxRecDepth 100000 in
set_option maxHeartbeats 8000000 in
theorem penc_yes (c : Ct) (w : World) (h : rightB c = true) :
    Calls Try.prog 8 #[cval c] w fun e w' => ∃ q d, e = .returned (.tuple #[.slice q 66 d, .int .i64 0]) ∧ w'.ownsRow w.heap.size 5 1 (.slice q 66 d) 66 (bys (Ck.tight (raw c))) ∧ Below w.heap.size w w' := by
  have R := Lib.hid (fun W => pright_any c W)
  rw [h] at R
  have HN := Lib.hid (fun (j : Nat) (x : Int) (hx : (fld c)[j]? = some x) => upto_next h hx)
  have HL := Lib.hid (fun j => Ob.short_of (Nat.le_trans (upto_len c j) (show 64 ≤ 1000000 by decide)))
  have HE := Lib.hid (show upto c 8 = raw c from rfl)
  have HU := Lib.hid (show upto c 0 = [] from rfl)
  have HLen := Lib.hid (raw_length c)
  obtain ⟨cx, hcx⟩ : ∃ cx, c = cx := ⟨_, rfl⟩
  obtain ⟨ka, kb, kc, kd, ke, kf, kg, kh⟩ := c
  simp only [cval] at R ⊢
  have B0 := Lib.hid (alloc_below w (.cells #[.int .i64 ka, .int .i64 kb, .int .i64 kc, .int .i64 kd, .int .i64 ke, .int .i64 kf, .int .i64 kg, .int .i64 kh] 23))
  have X0 := Lib.hid (Lies.new w 23 #[.int .i64 ka, .int .i64 kb, .int .i64 kc, .int .i64 kd, .int .i64 ke, .int .i64 kf, .int .i64 kg, .int .i64 kh])
  have x0 : (w.alloc (.cells #[.int .i64 ka, .int .i64 kb, .int .i64 kc, .int .i64 kd, .int .i64 ke, .int .i64 kf, .int .i64 kg, .int .i64 kh] 23)).cell? ⟨w.heap.size, 0, none⟩ = some (.int .i64 ka) := X0.out.cell 0
  have x1 : (w.alloc (.cells #[.int .i64 ka, .int .i64 kb, .int .i64 kc, .int .i64 kd, .int .i64 ke, .int .i64 kf, .int .i64 kg, .int .i64 kh] 23)).cell? ⟨w.heap.size, 1, none⟩ = some (.int .i64 kb) := X0.out.cell 1
  have x2 : (w.alloc (.cells #[.int .i64 ka, .int .i64 kb, .int .i64 kc, .int .i64 kd, .int .i64 ke, .int .i64 kf, .int .i64 kg, .int .i64 kh] 23)).cell? ⟨w.heap.size, 2, none⟩ = some (.int .i64 kc) := X0.out.cell 2
  have x3 : (w.alloc (.cells #[.int .i64 ka, .int .i64 kb, .int .i64 kc, .int .i64 kd, .int .i64 ke, .int .i64 kf, .int .i64 kg, .int .i64 kh] 23)).cell? ⟨w.heap.size, 3, none⟩ = some (.int .i64 kd) := X0.out.cell 3
  have x4 : (w.alloc (.cells #[.int .i64 ka, .int .i64 kb, .int .i64 kc, .int .i64 kd, .int .i64 ke, .int .i64 kf, .int .i64 kg, .int .i64 kh] 23)).cell? ⟨w.heap.size, 4, none⟩ = some (.int .i64 ke) := X0.out.cell 4
  have x5 : (w.alloc (.cells #[.int .i64 ka, .int .i64 kb, .int .i64 kc, .int .i64 kd, .int .i64 ke, .int .i64 kf, .int .i64 kg, .int .i64 kh] 23)).cell? ⟨w.heap.size, 5, none⟩ = some (.int .i64 kf) := X0.out.cell 5
  have x6 : (w.alloc (.cells #[.int .i64 ka, .int .i64 kb, .int .i64 kc, .int .i64 kd, .int .i64 ke, .int .i64 kf, .int .i64 kg, .int .i64 kh] 23)).cell? ⟨w.heap.size, 6, none⟩ = some (.int .i64 kg) := X0.out.cell 6
  have x7 : (w.alloc (.cells #[.int .i64 ka, .int .i64 kb, .int .i64 kc, .int .i64 kd, .int .i64 ke, .int .i64 kf, .int .i64 kg, .int .i64 kh] 23)).cell? ⟨w.heap.size, 7, none⟩ = some (.int .i64 kh) := X0.out.cell 7
  have n0 := Lib.hid (HN.out 0 ka rfl)
  have n1 := Lib.hid (HN.out 1 kb rfl)
  have n2 := Lib.hid (HN.out 2 kc rfl)
  have n3 := Lib.hid (HN.out 3 kd rfl)
  have n4 := Lib.hid (HN.out 4 ke rfl)
  have n5 := Lib.hid (HN.out 5 kf rfl)
  have n6 := Lib.hid (HN.out 6 kg rfl)
  have n7 := Lib.hid (HN.out 7 kh rfl)
  rw [hcx] at HL HE HLen HU ⊢
  rw [hcx] at n0
  rw [hcx] at n1
  rw [hcx] at n2
  rw [hcx] at n3
  rw [hcx] at n4
  rw [hcx] at n5
  rw [hcx] at n6
  rw [hcx] at n7
  clear h HN hcx
  go_enter Try.func8, Try.ntmps8
  go_wp2_with fail
  refine (R.out _).mono ?_
  rintro e w1 ⟨rfl, hb⟩
  have B1 := Lib.hid (B0.out.trans (hb.mono B0.out.size))
  have X1 := Lib.hid (X0.out.below hb X0.out.lt)
  clear hb B0 X0 R x0 x1 x2 x3 x4 x5 x6 x7
  go_wp2_with fail
  refine (Ob.new_any w1).mono ?_
  rintro e w2 ⟨rfl, rfl⟩
  have P2 := Lib.hid (Ob.new_pw w1 w1.heap.size (Nat.le_refl _))
  have C2 := Lib.hid (alloc_below w1 (.cells #[.slice none 0 0, .int .i64 0] 73))
  obtain ⟨w2, hw2⟩ : ∃ w2, w1.alloc (.cells #[.slice none 0 0, .int .i64 0] 73) = w2 := ⟨_, rfl⟩
  rw [hw2] at P2 C2 ⊢
  clear hw2
  go_wp2_with fail
  refine (pfields_any _ _).mono ?_
  rintro e w3 ⟨rfl, hb⟩
  have P3 := Lib.hid (P2.out.below hb)
  have C3 := Lib.hid (C2.out.trans (hb.mono C2.out.size))
  clear hb P2 C2
  unfold fptr
  go_wp2
  go_loopw [14] (fun i wr => ∃ k v, k ≤ 8 ∧ i = .int .i64 ((k : Nat) : Int) ∧ Hid (Ob.PW wr w1.heap.size w1.heap.size v (some (upto cx k))) ∧ Hid (Below w1.heap.size w1 wr)) (fun i _ => 8 - (intOf i).toNat)
  case atStart => exact ⟨0, _, by decide, rfl, Lib.hid (HU.out.symm ▸ P3.out), C3⟩
  case round =>
    obtain ⟨k, v, hk, rfl, PR, BR⟩ := hrel
    by_cases hlt : k < 8
    · have hk8 : k = 0 ∨ k = 1 ∨ k = 2 ∨ k = 3 ∨ k = 4 ∨ k = 5 ∨ k = 6 ∨ k = 7 := by omega
      clear hk hlt
      rcases hk8 with rfl | rfl | rfl | rfl | rfl | rfl | rfl | rfl
      · have x0 : wr.cell? ⟨w.heap.size, 0, none⟩ = some (.int .i64 ka) := (X1.out.below BR.out X1.out.lt).cell 0
        have i0 := fun W => pidx_0 w.heap.size W
        go_wp2_with fail
        refine (Ob.int_any _ _ _ _ ka ka.toNat _ PR.out n0.out.1 (HL.out 0)).mono ?_
        rintro e w5 ⟨rfl, hw⟩
        rw [n0.out.2] at hw
        obtain ⟨v5, p5, c5⟩ := Ob.wrote_below PR.out BR.out hw
        have P5 := Lib.hid p5
        have C5 := Lib.hid c5
        clear hw p5 c5 x0 PR BR
        go_wp2
        go_roundw
        case rel => exact ⟨0 + 1, v5, by decide, by go_num, P5, C5⟩
        case measure => simp [intOf]
      · have x0 : wr.cell? ⟨w.heap.size, 1, none⟩ = some (.int .i64 kb) := (X1.out.below BR.out X1.out.lt).cell 1
        have i0 := fun W => pidx_1 w.heap.size W
        go_wp2_with fail
        refine (Ob.int_any _ _ _ _ kb kb.toNat _ PR.out n1.out.1 (HL.out 1)).mono ?_
        rintro e w5 ⟨rfl, hw⟩
        rw [n1.out.2] at hw
        obtain ⟨v5, p5, c5⟩ := Ob.wrote_below PR.out BR.out hw
        have P5 := Lib.hid p5
        have C5 := Lib.hid c5
        clear hw p5 c5 x0 PR BR
        go_wp2
        go_roundw
        case rel => exact ⟨1 + 1, v5, by decide, by go_num, P5, C5⟩
        case measure => simp [intOf]
      · have x0 : wr.cell? ⟨w.heap.size, 2, none⟩ = some (.int .i64 kc) := (X1.out.below BR.out X1.out.lt).cell 2
        have i0 := fun W => pidx_2 w.heap.size W
        go_wp2_with fail
        refine (Ob.int_any _ _ _ _ kc kc.toNat _ PR.out n2.out.1 (HL.out 2)).mono ?_
        rintro e w5 ⟨rfl, hw⟩
        rw [n2.out.2] at hw
        obtain ⟨v5, p5, c5⟩ := Ob.wrote_below PR.out BR.out hw
        have P5 := Lib.hid p5
        have C5 := Lib.hid c5
        clear hw p5 c5 x0 PR BR
        go_wp2
        go_roundw
        case rel => exact ⟨2 + 1, v5, by decide, by go_num, P5, C5⟩
        case measure => simp [intOf]
      · have x0 : wr.cell? ⟨w.heap.size, 3, none⟩ = some (.int .i64 kd) := (X1.out.below BR.out X1.out.lt).cell 3
        have i0 := fun W => pidx_3 w.heap.size W
        go_wp2_with fail
        refine (Ob.int_any _ _ _ _ kd kd.toNat _ PR.out n3.out.1 (HL.out 3)).mono ?_
        rintro e w5 ⟨rfl, hw⟩
        rw [n3.out.2] at hw
        obtain ⟨v5, p5, c5⟩ := Ob.wrote_below PR.out BR.out hw
        have P5 := Lib.hid p5
        have C5 := Lib.hid c5
        clear hw p5 c5 x0 PR BR
        go_wp2
        go_roundw
        case rel => exact ⟨3 + 1, v5, by decide, by go_num, P5, C5⟩
        case measure => simp [intOf]
      · have x0 : wr.cell? ⟨w.heap.size, 4, none⟩ = some (.int .i64 ke) := (X1.out.below BR.out X1.out.lt).cell 4
        have i0 := fun W => pidx_4 w.heap.size W
        go_wp2_with fail
        refine (Ob.int_any _ _ _ _ ke ke.toNat _ PR.out n4.out.1 (HL.out 4)).mono ?_
        rintro e w5 ⟨rfl, hw⟩
        rw [n4.out.2] at hw
        obtain ⟨v5, p5, c5⟩ := Ob.wrote_below PR.out BR.out hw
        have P5 := Lib.hid p5
        have C5 := Lib.hid c5
        clear hw p5 c5 x0 PR BR
        go_wp2
        go_roundw
        case rel => exact ⟨4 + 1, v5, by decide, by go_num, P5, C5⟩
        case measure => simp [intOf]
      · have x0 : wr.cell? ⟨w.heap.size, 5, none⟩ = some (.int .i64 kf) := (X1.out.below BR.out X1.out.lt).cell 5
        have i0 := fun W => pidx_5 w.heap.size W
        go_wp2_with fail
        refine (Ob.int_any _ _ _ _ kf kf.toNat _ PR.out n5.out.1 (HL.out 5)).mono ?_
        rintro e w5 ⟨rfl, hw⟩
        rw [n5.out.2] at hw
        obtain ⟨v5, p5, c5⟩ := Ob.wrote_below PR.out BR.out hw
        have P5 := Lib.hid p5
        have C5 := Lib.hid c5
        clear hw p5 c5 x0 PR BR
        go_wp2
        go_roundw
        case rel => exact ⟨5 + 1, v5, by decide, by go_num, P5, C5⟩
        case measure => simp [intOf]
      · have x0 : wr.cell? ⟨w.heap.size, 6, none⟩ = some (.int .i64 kg) := (X1.out.below BR.out X1.out.lt).cell 6
        have i0 := fun W => pidx_6 w.heap.size W
        go_wp2_with fail
        refine (Ob.int_any _ _ _ _ kg kg.toNat _ PR.out n6.out.1 (HL.out 6)).mono ?_
        rintro e w5 ⟨rfl, hw⟩
        rw [n6.out.2] at hw
        obtain ⟨v5, p5, c5⟩ := Ob.wrote_below PR.out BR.out hw
        have P5 := Lib.hid p5
        have C5 := Lib.hid c5
        clear hw p5 c5 x0 PR BR
        go_wp2
        go_roundw
        case rel => exact ⟨6 + 1, v5, by decide, by go_num, P5, C5⟩
        case measure => simp [intOf]
      · have x0 : wr.cell? ⟨w.heap.size, 7, none⟩ = some (.int .i64 kh) := (X1.out.below BR.out X1.out.lt).cell 7
        have i0 := fun W => pidx_7 w.heap.size W
        go_wp2_with fail
        refine (Ob.int_any _ _ _ _ kh kh.toNat _ PR.out n7.out.1 (HL.out 7)).mono ?_
        rintro e w5 ⟨rfl, hw⟩
        rw [n7.out.2] at hw
        obtain ⟨v5, p5, c5⟩ := Ob.wrote_below PR.out BR.out hw
        have P5 := Lib.hid p5
        have C5 := Lib.hid c5
        clear hw p5 c5 x0 PR BR
        go_wp2
        go_roundw
        case rel => exact ⟨7 + 1, v5, by decide, by go_num, P5, C5⟩
        case measure => simp [intOf]
    · obtain rfl : k = 8 := by omega
      have D := Lib.hid (Ob.done_any _ _ _ _ wr PR.out (HL.out 8))
      simp only [Ob.told, Ob.toldE, Option.getD_some, Option.isSome_some, if_true, HE.out, HLen.out] at D
      clear hk hlt n0 n1 n2 n3 n4 n5 n6 n7 HU HL
      go_wp2_with fail
      refine D.out.mono ?_
      rintro e w8 ⟨q8, d8, rfl, hd8, hA8, hb8⟩
      have S := Lib.hid (Ck.seal_own q8 64 d8 _ w8 (by decide) hA8)
      have C8 := Lib.hid (BR.out.trans (hb8.mono BR.out.size))
      clear hA8 hb8 BR PR D
      go_wp2_with fail
      refine S.out.mono ?_
      rintro e w9 ⟨v9, rfl, hA9, hb9⟩
      have A9 := Lib.hid (hA9.mono (Nat.le_trans B1.out.size C8.out.size))
      have B9 := Lib.hid ((B1.out.trans (C8.out.mono B1.out.size)).trans (hb9.mono (Nat.le_trans B1.out.size C8.out.size)))
      clear hA9 hb9
      obtain ⟨q9, d9, rfl⟩ := own_slice A9.out
      go_wp2
      go_ret2
      exact ⟨q9, d9, rfl, A9.out, B9.out⟩
theorem rnum_part {l : List Nat} (hl : l.length = 64) {j : Nat} (hj : j < 8) : Oc.rnum (0, l.drop (8 * j)) 8 = (Oc.val ((l.drop (8 * j)).take 8), (0, l.drop (8 * (j + 1)))) := by
  unfold Oc.rnum
  rw [if_neg (by simp), if_neg (by omega), if_neg (by
    show ¬ (l.drop (8 * j)).length < 8
    rw [List.length_drop]
    omega)]
  show (Oc.val ((l.drop (8 * j)).take 8), 0, (l.drop (8 * j)).drop 8) = _
  rw [List.drop_drop]
  rfl
theorem num_wrap (l : List Nat) (j : Nat) : wrap64 ((Oc.val ((l.drop (8 * j)).take 8) : Nat) : Int) = num l j := by
  unfold num
  exact (IntWalk.i64_left _).symm
/-- What is read so far. -/
def dcut (l : List Nat) (k : Nat) : Array Value := #[.int .i64 (if 0 < k then num l 0 else 0), .int .i64 (if 1 < k then num l 1 else 0), .int .i64 (if 2 < k then num l 2 else 0), .int .i64 (if 3 < k then num l 3 else 0), .int .i64 (if 4 < k then num l 4 else 0), .int .i64 (if 5 < k then num l 5 else 0), .int .i64 (if 6 < k then num l 6 else 0), .int .i64 (if 7 < k then num l 7 else 0)]
theorem noU8_ct (a b c d e f g h : Int) : NoU8 #[.int .i64 a, .int .i64 b, .int .i64 c, .int .i64 d, .int .i64 e, .int .i64 f, .int .i64 g, .int .i64 h] := by
  intro i x hx
  match i with
  | 0 => simp at hx
  | 1 => simp at hx
  | 2 => simp at hx
  | 3 => simp at hx
  | 4 => simp at hx
  | 5 => simp at hx
  | 6 => simp at hx
  | 7 => simp at hx
  | i + 8 => simp at hx
/-- A number is read, and put into its place. -/
theorem cut_step {w w1 : World} {b g j : Nat} {l : List Nat} {s : Nat × List Nat} (hne : b ≠ g) (hd : Lies w b 23 (dcut l j)) (ht : Ob.Took w g s w1) (x : Int) (e : (dcut l j).setIfInBounds j (.int .i64 x) = dcut l (j + 1)) :
    Lies (w1.setCell ⟨b, j, none⟩ (.int .i64 x)) b 23 (dcut l (j + 1)) ∧ Ob.PR (w1.setCell ⟨b, j, none⟩ (.int .i64 x)) g s ∧ Turn (fun k => k = b ∨ k = g) w (w1.setCell ⟨b, j, none⟩ (.int .i64 x)) := by
  have hd1 : Lies w1 b 23 (dcut l j) := hd.turn ht.2 hne
  have t1 : Turn (fun k => k = b) w1 (w1.setCell ⟨b, j, none⟩ (.int .i64 x)) := (Turn.refl (fun k => k = b) w1).setCell (p := ⟨b, j, none⟩) (.inl rfl) _
  have hP : Plain w1 (fun k => k = b) := by
    rintro k rfl
    exact ⟨_, _, hd1, noU8_ct _ _ _ _ _ _ _ _⟩
  refine ⟨?_, ht.1.turn t1 hP (fun e => hne e.symm), (ht.2.mono (fun k _ hk => .inr hk)).trans t1 (fun k hk => .inl (.inl hk))⟩
  have := hd1.set_ j (.int .i64 x)
  rw [e] at this
  exact this
set_option maxRecDepth 100000 in
set_option maxHeartbeats 8000000 in
theorem pread_any (p : Option Addr) (d : Nat) (l : List Nat) (w : World) (hA : At w p 64 l) :
    Calls Try.prog 30 #[.slice p 64 d] w fun e w' => e = .returned (cval (said l)) ∧ Below w.heap.size w w' := by
  have hl := hA.1
  have HD := Lib.hid (show dcut l 8 = #[.int .i64 (num l 0), .int .i64 (num l 1), .int .i64 (num l 2), .int .i64 (num l 3), .int .i64 (num l 4), .int .i64 (num l 5), .int .i64 (num l 6), .int .i64 (num l 7)] from rfl)
  have B1 := Lib.hid (alloc_below w (.cells #[.int .i64 0, .int .i64 0, .int .i64 0, .int .i64 0, .int .i64 0, .int .i64 0, .int .i64 0, .int .i64 0] 23))
  have X1 := Lib.hid (Lies.new w 23 #[.int .i64 0, .int .i64 0, .int .i64 0, .int .i64 0, .int .i64 0, .int .i64 0, .int .i64 0, .int .i64 0])
  obtain ⟨w1, hw1⟩ : ∃ w1, w.alloc (.cells #[.int .i64 0, .int .i64 0, .int .i64 0, .int .i64 0, .int .i64 0, .int .i64 0, .int .i64 0, .int .i64 0] 23) = w1 := ⟨_, rfl⟩
  rw [hw1] at B1 X1
  have hs1 : w1.heap.size = w.heap.size + 1 := by rw [← hw1]; simp
  have B2 := Lib.hid (B1.out.alloc B1.out.size (.cells #[.int .i64 0, .int .i64 0, .int .i64 0, .int .i64 0, .int .i64 0, .int .i64 0, .int .i64 0, .int .i64 0] 23))
  have X2 := Lib.hid (X1.out.alloc (.cells #[.int .i64 0, .int .i64 0, .int .i64 0, .int .i64 0, .int .i64 0, .int .i64 0, .int .i64 0, .int .i64 0] 23))
  have Y2 := Lib.hid (show Lies (w1.alloc (.cells #[.int .i64 0, .int .i64 0, .int .i64 0, .int .i64 0, .int .i64 0, .int .i64 0, .int .i64 0, .int .i64 0] 23)) w1.heap.size 23 (dcut l 0) from Lies.new w1 23 #[.int .i64 0, .int .i64 0, .int .i64 0, .int .i64 0, .int .i64 0, .int .i64 0, .int .i64 0, .int .i64 0])
  obtain ⟨w2, hw2⟩ : ∃ w2, w1.alloc (.cells #[.int .i64 0, .int .i64 0, .int .i64 0, .int .i64 0, .int .i64 0, .int .i64 0, .int .i64 0, .int .i64 0] 23) = w2 := ⟨_, rfl⟩
  rw [hw2] at B2 X2 Y2
  have hs2 : w2.heap.size = w1.heap.size + 1 := by rw [← hw2]; simp
  have A2 := Lib.hid (Ob.newr_any p 64 d l w2 (by decide) (hA.keep B2.out))
  have n0 := Lib.hid (rnum_part hl (j := 0) (by decide))
  have m0 := Lib.hid (num_wrap l 0)
  have e0 := Lib.hid (show (dcut l 0).setIfInBounds 0 (.int .i64 (num l 0)) = dcut l (0 + 1) from rfl)
  have n1 := Lib.hid (rnum_part hl (j := 1) (by decide))
  have m1 := Lib.hid (num_wrap l 1)
  have e1 := Lib.hid (show (dcut l 1).setIfInBounds 1 (.int .i64 (num l 1)) = dcut l (1 + 1) from rfl)
  have n2 := Lib.hid (rnum_part hl (j := 2) (by decide))
  have m2 := Lib.hid (num_wrap l 2)
  have e2 := Lib.hid (show (dcut l 2).setIfInBounds 2 (.int .i64 (num l 2)) = dcut l (2 + 1) from rfl)
  have n3 := Lib.hid (rnum_part hl (j := 3) (by decide))
  have m3 := Lib.hid (num_wrap l 3)
  have e3 := Lib.hid (show (dcut l 3).setIfInBounds 3 (.int .i64 (num l 3)) = dcut l (3 + 1) from rfl)
  have n4 := Lib.hid (rnum_part hl (j := 4) (by decide))
  have m4 := Lib.hid (num_wrap l 4)
  have e4 := Lib.hid (show (dcut l 4).setIfInBounds 4 (.int .i64 (num l 4)) = dcut l (4 + 1) from rfl)
  have n5 := Lib.hid (rnum_part hl (j := 5) (by decide))
  have m5 := Lib.hid (num_wrap l 5)
  have e5 := Lib.hid (show (dcut l 5).setIfInBounds 5 (.int .i64 (num l 5)) = dcut l (5 + 1) from rfl)
  have n6 := Lib.hid (rnum_part hl (j := 6) (by decide))
  have m6 := Lib.hid (num_wrap l 6)
  have e6 := Lib.hid (show (dcut l 6).setIfInBounds 6 (.int .i64 (num l 6)) = dcut l (6 + 1) from rfl)
  have n7 := Lib.hid (rnum_part hl (j := 7) (by decide))
  have m7 := Lib.hid (num_wrap l 7)
  have e7 := Lib.hid (show (dcut l 7).setIfInBounds 7 (.int .i64 (num l 7)) = dcut l (7 + 1) from rfl)
  have hs3 := Lib.hid (And.intro hs1 hs2)
  have HV := Lib.hid (show cval (said l) = .agg #[.int .i64 (num l 0), .int .i64 (num l 1), .int .i64 (num l 2), .int .i64 (num l 3), .int .i64 (num l 4), .int .i64 (num l 5), .int .i64 (num l 6), .int .i64 (num l 7)] from rfl)
  rw [HV.out]
  obtain ⟨sa, hsa⟩ : ∃ sa, num l 0 = sa := ⟨_, rfl⟩
  rw [hsa] at HD m0 e0 ⊢
  clear hsa
  obtain ⟨sb, hsb⟩ : ∃ sb, num l 1 = sb := ⟨_, rfl⟩
  rw [hsb] at HD m1 e1 ⊢
  clear hsb
  obtain ⟨sc, hsc⟩ : ∃ sc, num l 2 = sc := ⟨_, rfl⟩
  rw [hsc] at HD m2 e2 ⊢
  clear hsc
  obtain ⟨sd, hsd⟩ : ∃ sd, num l 3 = sd := ⟨_, rfl⟩
  rw [hsd] at HD m3 e3 ⊢
  clear hsd
  obtain ⟨se, hse⟩ : ∃ se, num l 4 = se := ⟨_, rfl⟩
  rw [hse] at HD m4 e4 ⊢
  clear hse
  obtain ⟨sf, hsf⟩ : ∃ sf, num l 5 = sf := ⟨_, rfl⟩
  rw [hsf] at HD m5 e5 ⊢
  clear hsf
  obtain ⟨sg, hsg⟩ : ∃ sg, num l 6 = sg := ⟨_, rfl⟩
  rw [hsg] at HD m6 e6 ⊢
  clear hsg
  obtain ⟨sh, hsh⟩ : ∃ sh, num l 7 = sh := ⟨_, rfl⟩
  rw [hsh] at HD m7 e7 ⊢
  clear hsh
  clear hA hl B1 X1 hs1 hs2 HV
  go_enter Try.func30, Try.ntmps30
  go_wp2_with fail
  refine A2.out.mono ?_
  rintro e w3 ⟨g, rfl, hg, hp3, hb3⟩
  have P3 := Lib.hid hp3
  have B3 := Lib.hid (B2.out.trans (hb3.mono B2.out.size))
  have X3 := Lib.hid (X2.out.below hb3 X2.out.lt)
  have Y3 := Lib.hid (Y2.out.below hb3 Y2.out.lt)
  clear hp3 hb3 A2 B2 X2 Y2 hw1 hw2
  go_wp2_with fail
  refine (pfields_any _ _).mono ?_
  rintro e w4 ⟨rfl, hb⟩
  have P4 := Lib.hid (P3.out.below hb)
  have B4 := Lib.hid (B3.out.trans (hb.mono B3.out.size))
  have X4 := Lib.hid (X3.out.below hb X3.out.lt)
  have Y4 := Lib.hid (Y3.out.below hb Y3.out.lt)
  clear hb P3 B3 X3 Y3
  obtain ⟨hs1, hs2⟩ := hs3.out
  have HG := Lib.hid (show w.heap.size ≠ g by omega)
  have HG2 := Lib.hid (show w1.heap.size ≠ g by omega)
  have HG3 := Lib.hid (show w.heap.size ≠ w1.heap.size by omega)
  have HS := Lib.hid (show w.heap.size ≤ w1.heap.size ∧ w.heap.size ≤ g by omega)
  clear hs1 hs2 hs3 hg
  unfold fptr
  go_wp2
  go_loopw [10] (fun i wr => ∃ k : Nat, k ≤ 8 ∧ i = .int .i64 ((k : Nat) : Int) ∧ Hid (Lies wr w.heap.size 23 #[.int .i64 0, .int .i64 0, .int .i64 0, .int .i64 0, .int .i64 0, .int .i64 0, .int .i64 0, .int .i64 0]) ∧ Hid (Lies wr w1.heap.size 23 (dcut l k)) ∧ Hid (Ob.PR wr g (0, l.drop (8 * k))) ∧ Hid (Below w.heap.size w wr)) (fun i _ => 8 - (intOf i).toNat)
  case atStart => exact ⟨0, by decide, rfl, X4, Y4, P4, B4⟩
  case round =>
    obtain ⟨k, hk, rfl, XR, YR, PR, BR⟩ := hrel
    by_cases hlt : k < 8
    · have hk8 : k = 0 ∨ k = 1 ∨ k = 2 ∨ k = 3 ∨ k = 4 ∨ k = 5 ∨ k = 6 ∨ k = 7 := by omega
      clear hk hlt
      rcases hk8 with rfl | rfl | rfl | rfl | rfl | rfl | rfl | rfl
      · have i0 := fun W => pidx_0 w1.heap.size W
        have G := Lib.hid (Ob.gint_any g _ wr PR.out)
        rw [n0.out, m0.out] at G
        go_wp2_with fail
        refine G.out.mono ?_
        rintro e w5 ⟨rfl, ht⟩
        have hd1 := YR.out.turn ht.2 HG2.out
        have f0 := hd1.cell 0
        have f1 := hd1.frozen 0
        have K := Lib.hid (cut_step HG2.out YR.out ht sa e0.out)
        have XN := Lib.hid (XR.out.turn K.out.2.2 (fun e => e.elim HG3.out HG.out))
        have BN := Lib.hid (K.out.2.2.below BR.out BR.out.size (fun i hi => hi.elim (fun e => e ▸ HS.out.1) (fun e => e ▸ HS.out.2)))
        clear ht hd1 G
        simp only [dcut] at f0
        go_wp2
        go_roundw
        case rel => exact ⟨0 + 1, by decide, by go_num, XN, Lib.hid K.out.1, Lib.hid K.out.2.1, BN⟩
        case measure => simp [intOf]
      · have i0 := fun W => pidx_1 w1.heap.size W
        have G := Lib.hid (Ob.gint_any g _ wr PR.out)
        rw [n1.out, m1.out] at G
        go_wp2_with fail
        refine G.out.mono ?_
        rintro e w5 ⟨rfl, ht⟩
        have hd1 := YR.out.turn ht.2 HG2.out
        have f0 := hd1.cell 1
        have f1 := hd1.frozen 1
        have K := Lib.hid (cut_step HG2.out YR.out ht sb e1.out)
        have XN := Lib.hid (XR.out.turn K.out.2.2 (fun e => e.elim HG3.out HG.out))
        have BN := Lib.hid (K.out.2.2.below BR.out BR.out.size (fun i hi => hi.elim (fun e => e ▸ HS.out.1) (fun e => e ▸ HS.out.2)))
        clear ht hd1 G
        simp only [dcut] at f0
        go_wp2
        go_roundw
        case rel => exact ⟨1 + 1, by decide, by go_num, XN, Lib.hid K.out.1, Lib.hid K.out.2.1, BN⟩
        case measure => simp [intOf]
      · have i0 := fun W => pidx_2 w1.heap.size W
        have G := Lib.hid (Ob.gint_any g _ wr PR.out)
        rw [n2.out, m2.out] at G
        go_wp2_with fail
        refine G.out.mono ?_
        rintro e w5 ⟨rfl, ht⟩
        have hd1 := YR.out.turn ht.2 HG2.out
        have f0 := hd1.cell 2
        have f1 := hd1.frozen 2
        have K := Lib.hid (cut_step HG2.out YR.out ht sc e2.out)
        have XN := Lib.hid (XR.out.turn K.out.2.2 (fun e => e.elim HG3.out HG.out))
        have BN := Lib.hid (K.out.2.2.below BR.out BR.out.size (fun i hi => hi.elim (fun e => e ▸ HS.out.1) (fun e => e ▸ HS.out.2)))
        clear ht hd1 G
        simp only [dcut] at f0
        go_wp2
        go_roundw
        case rel => exact ⟨2 + 1, by decide, by go_num, XN, Lib.hid K.out.1, Lib.hid K.out.2.1, BN⟩
        case measure => simp [intOf]
      · have i0 := fun W => pidx_3 w1.heap.size W
        have G := Lib.hid (Ob.gint_any g _ wr PR.out)
        rw [n3.out, m3.out] at G
        go_wp2_with fail
        refine G.out.mono ?_
        rintro e w5 ⟨rfl, ht⟩
        have hd1 := YR.out.turn ht.2 HG2.out
        have f0 := hd1.cell 3
        have f1 := hd1.frozen 3
        have K := Lib.hid (cut_step HG2.out YR.out ht sd e3.out)
        have XN := Lib.hid (XR.out.turn K.out.2.2 (fun e => e.elim HG3.out HG.out))
        have BN := Lib.hid (K.out.2.2.below BR.out BR.out.size (fun i hi => hi.elim (fun e => e ▸ HS.out.1) (fun e => e ▸ HS.out.2)))
        clear ht hd1 G
        simp only [dcut] at f0
        go_wp2
        go_roundw
        case rel => exact ⟨3 + 1, by decide, by go_num, XN, Lib.hid K.out.1, Lib.hid K.out.2.1, BN⟩
        case measure => simp [intOf]
      · have i0 := fun W => pidx_4 w1.heap.size W
        have G := Lib.hid (Ob.gint_any g _ wr PR.out)
        rw [n4.out, m4.out] at G
        go_wp2_with fail
        refine G.out.mono ?_
        rintro e w5 ⟨rfl, ht⟩
        have hd1 := YR.out.turn ht.2 HG2.out
        have f0 := hd1.cell 4
        have f1 := hd1.frozen 4
        have K := Lib.hid (cut_step HG2.out YR.out ht se e4.out)
        have XN := Lib.hid (XR.out.turn K.out.2.2 (fun e => e.elim HG3.out HG.out))
        have BN := Lib.hid (K.out.2.2.below BR.out BR.out.size (fun i hi => hi.elim (fun e => e ▸ HS.out.1) (fun e => e ▸ HS.out.2)))
        clear ht hd1 G
        simp only [dcut] at f0
        go_wp2
        go_roundw
        case rel => exact ⟨4 + 1, by decide, by go_num, XN, Lib.hid K.out.1, Lib.hid K.out.2.1, BN⟩
        case measure => simp [intOf]
      · have i0 := fun W => pidx_5 w1.heap.size W
        have G := Lib.hid (Ob.gint_any g _ wr PR.out)
        rw [n5.out, m5.out] at G
        go_wp2_with fail
        refine G.out.mono ?_
        rintro e w5 ⟨rfl, ht⟩
        have hd1 := YR.out.turn ht.2 HG2.out
        have f0 := hd1.cell 5
        have f1 := hd1.frozen 5
        have K := Lib.hid (cut_step HG2.out YR.out ht sf e5.out)
        have XN := Lib.hid (XR.out.turn K.out.2.2 (fun e => e.elim HG3.out HG.out))
        have BN := Lib.hid (K.out.2.2.below BR.out BR.out.size (fun i hi => hi.elim (fun e => e ▸ HS.out.1) (fun e => e ▸ HS.out.2)))
        clear ht hd1 G
        simp only [dcut] at f0
        go_wp2
        go_roundw
        case rel => exact ⟨5 + 1, by decide, by go_num, XN, Lib.hid K.out.1, Lib.hid K.out.2.1, BN⟩
        case measure => simp [intOf]
      · have i0 := fun W => pidx_6 w1.heap.size W
        have G := Lib.hid (Ob.gint_any g _ wr PR.out)
        rw [n6.out, m6.out] at G
        go_wp2_with fail
        refine G.out.mono ?_
        rintro e w5 ⟨rfl, ht⟩
        have hd1 := YR.out.turn ht.2 HG2.out
        have f0 := hd1.cell 6
        have f1 := hd1.frozen 6
        have K := Lib.hid (cut_step HG2.out YR.out ht sg e6.out)
        have XN := Lib.hid (XR.out.turn K.out.2.2 (fun e => e.elim HG3.out HG.out))
        have BN := Lib.hid (K.out.2.2.below BR.out BR.out.size (fun i hi => hi.elim (fun e => e ▸ HS.out.1) (fun e => e ▸ HS.out.2)))
        clear ht hd1 G
        simp only [dcut] at f0
        go_wp2
        go_roundw
        case rel => exact ⟨6 + 1, by decide, by go_num, XN, Lib.hid K.out.1, Lib.hid K.out.2.1, BN⟩
        case measure => simp [intOf]
      · have i0 := fun W => pidx_7 w1.heap.size W
        have G := Lib.hid (Ob.gint_any g _ wr PR.out)
        rw [n7.out, m7.out] at G
        go_wp2_with fail
        refine G.out.mono ?_
        rintro e w5 ⟨rfl, ht⟩
        have hd1 := YR.out.turn ht.2 HG2.out
        have f0 := hd1.cell 7
        have f1 := hd1.frozen 7
        have K := Lib.hid (cut_step HG2.out YR.out ht sh e7.out)
        have XN := Lib.hid (XR.out.turn K.out.2.2 (fun e => e.elim HG3.out HG.out))
        have BN := Lib.hid (K.out.2.2.below BR.out BR.out.size (fun i hi => hi.elim (fun e => e ▸ HS.out.1) (fun e => e ▸ HS.out.2)))
        clear ht hd1 G
        simp only [dcut] at f0
        go_wp2
        go_roundw
        case rel => exact ⟨7 + 1, by decide, by go_num, XN, Lib.hid K.out.1, Lib.hid K.out.2.1, BN⟩
        case measure => simp [intOf]
    · obtain rfl : k = 8 := by omega
      have YE := Lib.hid (HD.out ▸ YR.out)
      clear hk hlt n0 n1 n2 n3 n4 n5 n6 n7 m0 m1 m2 m3 m4 m5 m6 m7 e0 e1 e2 e3 e4 e5 e6 e7 PR YR HD X4 Y4 P4 B4
      have c0 : wr.cell? ⟨w1.heap.size, 0, none⟩ = some (.int .i64 sa) := YE.out.cell 0
      have c1 : wr.cell? ⟨w1.heap.size, 1, none⟩ = some (.int .i64 sb) := YE.out.cell 1
      have c2 : wr.cell? ⟨w1.heap.size, 2, none⟩ = some (.int .i64 sc) := YE.out.cell 2
      have c3 : wr.cell? ⟨w1.heap.size, 3, none⟩ = some (.int .i64 sd) := YE.out.cell 3
      have c4 : wr.cell? ⟨w1.heap.size, 4, none⟩ = some (.int .i64 se) := YE.out.cell 4
      have c5 : wr.cell? ⟨w1.heap.size, 5, none⟩ = some (.int .i64 sf) := YE.out.cell 5
      have c6 : wr.cell? ⟨w1.heap.size, 6, none⟩ = some (.int .i64 sg) := YE.out.cell 6
      have c7 : wr.cell? ⟨w1.heap.size, 7, none⟩ = some (.int .i64 sh) := YE.out.cell 7
      have r0 : wr.cell? ⟨w.heap.size, 0, none⟩ = some (.int .i64 0) := XR.out.cell 0
      have g0 := XR.out.frozen 0
      have r1 : wr.cell? ⟨w.heap.size, 1, none⟩ = some (.int .i64 0) := XR.out.cell 1
      have g1 := XR.out.frozen 1
      have r2 : wr.cell? ⟨w.heap.size, 2, none⟩ = some (.int .i64 0) := XR.out.cell 2
      have g2 := XR.out.frozen 2
      have r3 : wr.cell? ⟨w.heap.size, 3, none⟩ = some (.int .i64 0) := XR.out.cell 3
      have g3 := XR.out.frozen 3
      have r4 : wr.cell? ⟨w.heap.size, 4, none⟩ = some (.int .i64 0) := XR.out.cell 4
      have g4 := XR.out.frozen 4
      have r5 : wr.cell? ⟨w.heap.size, 5, none⟩ = some (.int .i64 0) := XR.out.cell 5
      have g5 := XR.out.frozen 5
      have r6 : wr.cell? ⟨w.heap.size, 6, none⟩ = some (.int .i64 0) := XR.out.cell 6
      have g6 := XR.out.frozen 6
      have r7 : wr.cell? ⟨w.heap.size, 7, none⟩ = some (.int .i64 0) := XR.out.cell 7
      have g7 := XR.out.frozen 7
      clear YE XR
      go_wp2
      refine bodyPost_ret (v := .agg #[.int .i64 sa, .int .i64 sb, .int .i64 sc, .int .i64 sd, .int .i64 se, .int .i64 sf, .int .i64 sg, .int .i64 sh]) (by simp [results, Try.results30, go_sem, r0, r1, r2, r3, r4, r5, r6, r7]) rfl ⟨rfl, ?_⟩
      iterate 8 refine Below.setCell ?_ (show w.heap.size ≤ _ from Nat.le_refl _) _
      exact BR.out
end Ce
end Go.Proofs.Ytklhapekfgcplaa
