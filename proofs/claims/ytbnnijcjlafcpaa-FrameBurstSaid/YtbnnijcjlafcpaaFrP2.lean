/- Walks over package frame: a frame's bytes. No condition but those written. -/
import Derived.Test.YtbnnijcjlafcpaaFrP1
import Derived.Test.YtbnnijcjlafcpaaOb1
import Derived.Test.YtbnnijcjlafcpaaCk2
namespace Go.Proofs.Ytbnnijcjlafcpaa
open Go.RowKit

namespace Fr
set_option maxRecDepth 100000 in
set_option maxHeartbeats 1000000 in
theorem fenc_no (f : Frm) (w : World) (h : okB f = false) :
    Calls Try.prog 7 #[val f] w fun e w' => e = .returned (.tuple #[.slice none 0 0, .int .i64 1]) ∧ Below w.heap.size w w' := by
  have R := Lib.hid (fun W => fright_any f W)
  rw [h] at R
  have B0 := Lib.hid ((Below.refl w.heap.size w).alloc (Nat.le_refl _) (.cells #[.int .i64 f.zone, .int .i64 f.seq, .int .i64 f.minute, .bool f.door, .bool f.opn, .int .u64 (f.bits : Int)] 24))
  clear h
  obtain ⟨z, s, m, d, o, b⟩ := f
  unfold val at *
  simp only at *
  go_enter Try.func7, Try.ntmps7
  go_wp2_with fail
  refine (R.out _).mono ?_
  rintro e w1 ⟨rfl, hb⟩
  have B1 := Lib.hid (B0.out.trans (hb.mono B0.out.size))
  clear hb B0
  go_wp2
  go_ret2
  exact ⟨rfl, B1.out⟩
set_option maxRecDepth 100000 in
set_option maxHeartbeats 2000000 in
theorem fenc_own (f : Frm) (w : World) (hb : f.bits < 18446744073709551616) (h : okB f = true) :
    Calls Try.prog 7 #[val f] w fun e w' => ∃ v, e = .returned (.tuple #[v, .int .i64 0]) ∧ w'.ownsRow w.heap.size 5 1 v ((raw f).length + 2) (bys (Ck.tight (raw f))) ∧ Below w.heap.size w w' := by
  have R := Lib.hid (fun W => fright_any f W)
  rw [h] at R
  have hnum : numB f = true := by
    simp only [okB, Bool.and_eq_true] at h
    exact h.1
  obtain ⟨h1, h2, h3, h4, h5, h6⟩ := num_of hnum
  have X0 := Lib.hid (box_new w 24 f)
  have B0 := Lib.hid ((Below.refl w.heap.size w).alloc (Nat.le_refl _) (.cells #[.int .i64 f.zone, .int .i64 f.seq, .int .i64 f.minute, .bool f.door, .bool f.opn, .int .u64 (f.bits : Int)] 24))
  clear h hnum
  have HR : Hid (raw f = Oc.be 1 (bit f.door) ++ Oc.be 1 f.zone.toNat ++ Oc.be 2 f.seq.toNat ++ Oc.be 3 f.minute.toNat ++ (if f.door = true then Oc.be 1 (bit f.opn) else Oc.be 8 f.bits)) := Lib.hid (by
    unfold raw
    cases f.door <;> simp)
  have N1 : Hid (∀ l : List Nat, Oc.wnum (some l) f.zone.toNat 1 = some (l ++ Oc.be 1 f.zone.toNat)) := Lib.hid (fun l => wnum_ok (k := 1) (by decide) (by decide) (by omega))
  have N2 : Hid (∀ l : List Nat, Oc.wnum (some l) f.seq.toNat 2 = some (l ++ Oc.be 2 f.seq.toNat)) := Lib.hid (fun l => wnum_ok (k := 2) (by decide) (by decide) (by omega))
  have N3 : Hid (∀ l : List Nat, Oc.wnum (some l) f.minute.toNat 3 = some (l ++ Oc.be 3 f.minute.toNat)) := Lib.hid (fun l => wnum_ok (k := 3) (by decide) (by decide) (by omega))
  have NB : Hid (∀ (l : List Nat) (x : Bool), Oc.wnum (some l) (if x = true then 1 else 0) 1 = some (l ++ Oc.be 1 (bit x))) := Lib.hid (fun l x => wnum_ok (k := 1) (by decide) (by decide) (by cases x <;> decide))
  have N8 : Hid (∀ l : List Nat, Oc.wnum (some l) f.bits 8 = some (l ++ Oc.be 8 f.bits)) := Lib.hid (fun l => wnum_ok (k := 8) (by decide) (by decide) (by omega))
  clear hb
  obtain ⟨z, s, m, d, o, b⟩ := f
  unfold val at *
  simp only at *
  obtain ⟨zn, rfl⟩ : ∃ zn : Nat, z = zn := ⟨z.toNat, by omega⟩
  obtain ⟨sn, rfl⟩ : ∃ sn : Nat, s = sn := ⟨s.toNat, by omega⟩
  obtain ⟨mn, rfl⟩ : ∃ mn : Nat, m = mn := ⟨m.toNat, by omega⟩
  simp only [Int.toNat_natCast] at N1 N2 N3 HR
  go_enter Try.func7, Try.ntmps7
  go_wp2_with fail
  refine (R.out _).mono ?_
  rintro e w1 ⟨rfl, hb⟩
  have B1 := Lib.hid (B0.out.trans (hb.mono B0.out.size))
  have X1 := Lib.hid (X0.out.keep hb)
  clear hb B0 X0 R
  go_wp2_with fail
  refine (Ob.new_any w1).mono ?_
  rintro e w2 ⟨rfl, rfl⟩
  have P2 := Lib.hid (Ob.new_pw w1 w1.heap.size (Nat.le_refl _))
  have C2 := Lib.hid (alloc_below w1 (.cells #[.slice none 0 0, .int .i64 0] 60))
  obtain ⟨x0, x1, x2, x3, x4, x5⟩ := X1.out.keep C2.out
  go_wp2_with fail
  refine (Ob.bool_any _ _ _ _ d _ P2.out (short_some (by decide))).mono ?_
  rintro e w3 ⟨rfl, hw⟩
  rw [NB.out] at hw
  obtain ⟨v3, p3, c3⟩ := Ob.wrote_below P2.out C2.out hw
  have P3 := Lib.hid p3
  have C3 := Lib.hid c3
  clear x0 x1 x2 x3 x4 x5 hw p3 c3 P2 C2
  obtain ⟨x0, x1, x2, x3, x4, x5⟩ := X1.out.keep C3.out
  go_wp2_with fail
  refine (Ob.num_any _ _ _ _ zn 1 _ P3.out (short_some (by simp [Oc.be_length]))).mono ?_
  rintro e w4 ⟨rfl, hw⟩
  rw [N1.out] at hw
  obtain ⟨v4, p4, c4⟩ := Ob.wrote_below P3.out C3.out hw
  have P4 := Lib.hid p4
  have C4 := Lib.hid c4
  clear x0 x1 x2 x3 x4 x5 hw p4 c4 P3 C3
  obtain ⟨x0, x1, x2, x3, x4, x5⟩ := X1.out.keep C4.out
  go_wp2_with fail
  refine (Ob.num_any _ _ _ _ sn 2 _ P4.out (short_some (by simp [Oc.be_length]))).mono ?_
  rintro e w5 ⟨rfl, hw⟩
  rw [N2.out] at hw
  obtain ⟨v5, p5, c5⟩ := Ob.wrote_below P4.out C4.out hw
  have P5 := Lib.hid p5
  have C5 := Lib.hid c5
  clear x0 x1 x2 x3 x4 x5 hw p5 c5 P4 C4
  obtain ⟨x0, x1, x2, x3, x4, x5⟩ := X1.out.keep C5.out
  go_wp2_with fail
  refine (Ob.num_any _ _ _ _ mn 3 _ P5.out (short_some (by simp [Oc.be_length]))).mono ?_
  rintro e w6 ⟨rfl, hw⟩
  rw [N3.out] at hw
  obtain ⟨v6, p6, c6⟩ := Ob.wrote_below P5.out C5.out hw
  have P6 := Lib.hid p6
  have C6 := Lib.hid c6
  clear x0 x1 x2 x3 x4 x5 hw p6 c6 P5 C5
  obtain ⟨x0, x1, x2, x3, x4, x5⟩ := X1.out.keep C6.out
  cases d
  · go_wp2_with fail
    refine (Ob.num_any _ _ _ _ b 8 _ P6.out (short_some (by simp [Oc.be_length]))).mono ?_
    rintro e w7 ⟨rfl, hw⟩
    rw [N8.out] at hw
    have E : Hid (raw ⟨zn, sn, mn, false, o, b⟩ = [] ++ Oc.be 1 (bit false) ++ Oc.be 1 zn ++ Oc.be 2 sn ++ Oc.be 3 mn ++ Oc.be 8 b) := Lib.hid (by rw [HR.out]; simp)
    rw [← E.out] at hw
    obtain ⟨v7, p7, c7⟩ := Ob.wrote_below P6.out C6.out hw
    have HL : Hid ((raw ⟨zn, sn, mn, false, o, b⟩).length ≤ 1000000) := Lib.hid (by rw [raw_length]; split <;> decide)
    have D := Lib.hid (Ob.done_any _ _ _ _ w7 p7 (short_some HL.out))
    simp only [Ob.told, Ob.toldE, Option.getD_some, Option.isSome_some, if_true] at D
    have C7 := Lib.hid c7
    clear x0 x1 x2 x3 x4 x5 hw c7 P6 C6 p7
    go_wp2_with fail
    refine D.out.mono ?_
    rintro e w8 ⟨q8, d8, rfl, hd8, hA8, hb8⟩
    have S := Lib.hid (Ck.seal_own q8 _ d8 _ w8 HL.out hA8)
    have C8 := Lib.hid (C7.out.trans (hb8.mono C7.out.size))
    clear hA8 hb8 C7
    go_wp2_with fail
    refine S.out.mono ?_
    rintro e w9 ⟨v9, rfl, hA9, hb9⟩
    have A9 := Lib.hid (hA9.mono (Nat.le_trans B1.out.size C8.out.size))
    have B9 := Lib.hid ((B1.out.trans (C8.out.mono B1.out.size)).trans (hb9.mono (Nat.le_trans B1.out.size C8.out.size)))
    clear hA9 hb9
    go_wp2
    go_ret2
    exact ⟨v9, rfl, A9.out, B9.out⟩
  · go_wp2_with fail
    refine (Ob.bool_any _ _ _ _ o _ P6.out (short_some (by simp [Oc.be_length]))).mono ?_
    rintro e w7 ⟨rfl, hw⟩
    rw [NB.out] at hw
    have E : Hid (raw ⟨zn, sn, mn, true, o, b⟩ = [] ++ Oc.be 1 (bit true) ++ Oc.be 1 zn ++ Oc.be 2 sn ++ Oc.be 3 mn ++ Oc.be 1 (bit o)) := Lib.hid (by rw [HR.out]; simp)
    rw [← E.out] at hw
    obtain ⟨v7, p7, c7⟩ := Ob.wrote_below P6.out C6.out hw
    have HL : Hid ((raw ⟨zn, sn, mn, true, o, b⟩).length ≤ 1000000) := Lib.hid (by rw [raw_length]; split <;> decide)
    have D := Lib.hid (Ob.done_any _ _ _ _ w7 p7 (short_some HL.out))
    simp only [Ob.told, Ob.toldE, Option.getD_some, Option.isSome_some, if_true] at D
    have C7 := Lib.hid c7
    clear x0 x1 x2 x3 x4 x5 hw c7 P6 C6 p7
    go_wp2_with fail
    refine D.out.mono ?_
    rintro e w8 ⟨q8, d8, rfl, hd8, hA8, hb8⟩
    have S := Lib.hid (Ck.seal_own q8 _ d8 _ w8 HL.out hA8)
    have C8 := Lib.hid (C7.out.trans (hb8.mono C7.out.size))
    clear hA8 hb8 C7
    go_wp2_with fail
    refine S.out.mono ?_
    rintro e w9 ⟨v9, rfl, hA9, hb9⟩
    have A9 := Lib.hid (hA9.mono (Nat.le_trans B1.out.size C8.out.size))
    have B9 := Lib.hid ((B1.out.trans (C8.out.mono B1.out.size)).trans (hb9.mono (Nat.le_trans B1.out.size C8.out.size)))
    clear hA9 hb9
    go_wp2
    go_ret2
    exact ⟨v9, rfl, A9.out, B9.out⟩
theorem fenc_yes (f : Frm) (w : World) (hb : f.bits < 18446744073709551616) (h : okB f = true) :
    Calls Try.prog 7 #[val f] w fun e w' => ∃ q d, e = .returned (.tuple #[.slice q ((raw f).length + 2) d, .int .i64 0]) ∧ (raw f).length + 2 ≤ d ∧ At w' q ((raw f).length + 2) (Ck.tight (raw f)) ∧ Below w.heap.size w w' :=
  (fenc_own f w hb h).mono fun e w' ⟨v, he, ho, hb⟩ => by
    obtain ⟨r, f2, rfl, hd, hA⟩ := at_own (Ck.tight_length _) (Ck.tight_lt (raw_lt f)) ho
    exact ⟨r, f2, he, hd, hA, hb⟩
end Fr
end Go.Proofs.Ytbnnijcjlafcpaa
