/- Walks over the document's answer of layer 5: a frame's bytes, its tenths. No condition but those written. -/
import Derived.Test.YtbnnijcjlafcpaaFr1
namespace Go.Proofs.Ytbnnijcjlafcpaa
open Go.RowKit

namespace Fr
theorem rwrote_below {w wi w' : World} {B g : Nat} {v : Value} {s0 s : Option (List Nat)} (hp : Ob.RW wi B g v s0) (hb : Below B w wi) (h : Ob.RWrote wi B g v s w') : ∃ v', Ob.RW w' B g v' s ∧ Below B w w' := by
  obtain ⟨v', hp', ht, _⟩ := h
  exact ⟨v', hp', ht.below hb (Nat.le_trans hp.1 (Nat.le_of_lt (hp.foot (.inl rfl)).2)) (fun i hi => (hp.foot hi).1)⟩
theorem short_some {l : List Nat} {n : Nat} (h : l.length ≤ n) : Ob.short (some l) n := fun l' e => by
  injection e with e
  rw [← e]
  exact h
/-- The cells of a frame that lies in a block. -/
def Box (w : World) (b : Nat) (f : Frm) : Prop :=
  w.cell? ⟨b, 0, none⟩ = some (.int .i64 f.zone) ∧ w.cell? ⟨b, 1, none⟩ = some (.int .i64 f.seq) ∧ w.cell? ⟨b, 2, none⟩ = some (.int .i64 f.minute) ∧
  w.cell? ⟨b, 3, none⟩ = some (.bool f.door) ∧ w.cell? ⟨b, 4, none⟩ = some (.bool f.opn) ∧ w.cell? ⟨b, 5, none⟩ = some (.int .u64 (f.bits : Int))
theorem box_new (w : World) (t : TypeId) (f : Frm) : Box (w.alloc (.cells #[.int .i64 f.zone, .int .i64 f.seq, .int .i64 f.minute, .bool f.door, .bool f.opn, .int .u64 (f.bits : Int)] t)) w.heap.size f :=
  have h := Lies.new w t #[.int .i64 f.zone, .int .i64 f.seq, .int .i64 f.minute, .bool f.door, .bool f.opn, .int .u64 (f.bits : Int)]
  ⟨h.cell 0, h.cell 1, h.cell 2, h.cell 3, h.cell 4, h.cell 5⟩
theorem Box.keep {w w' : World} {b : Nat} {f : Frm} (h : Box w b f) (hb : Below w.heap.size w w') : Box w' b f := by
  obtain ⟨h0, h1, h2, h3, h4, h5⟩ := h
  have hlt : b < w.heap.size := World.block_lt_of_cell? w _ h0
  exact ⟨(hb.cell (p := ⟨b, 0, none⟩) hlt).trans h0, (hb.cell (p := ⟨b, 1, none⟩) hlt).trans h1, (hb.cell (p := ⟨b, 2, none⟩) hlt).trans h2, (hb.cell (p := ⟨b, 3, none⟩) hlt).trans h3, (hb.cell (p := ⟨b, 4, none⟩) hlt).trans h4, (hb.cell (p := ⟨b, 5, none⟩) hlt).trans h5⟩
set_option maxRecDepth 100000 in
set_option maxHeartbeats 1000000 in
theorem renc_no (f : Frm) (w : World) (hb : f.bits < 18446744073709551616) (h : okB f = false) :
    Calls Try.prog 8 #[val f] w fun e w' => e = .returned (.tuple #[.slice none 0 0, .int .i64 1]) ∧ Below w.heap.size w w' := by
  have R := Lib.hid (fun W => rright_any f W hb)
  rw [h] at R
  have B0 := Lib.hid ((Below.refl w.heap.size w).alloc (Nat.le_refl _) (.cells #[.int .i64 f.zone, .int .i64 f.seq, .int .i64 f.minute, .bool f.door, .bool f.opn, .int .u64 (f.bits : Int)] 24))
  clear h hb
  obtain ⟨z, s, m, d, o, b⟩ := f
  unfold val at *
  simp only at *
  go_enter Try.func8, Try.ntmps8
  go_wp2_with fail
  refine (R.out _).mono ?_
  rintro e w1 ⟨rfl, hb⟩
  have B1 := Lib.hid (B0.out.trans (hb.mono B0.out.size))
  clear hb B0
  go_wp2
  go_ret2
  exact ⟨rfl, B1.out⟩
theorem rw_new (w : World) : Ob.RW (w.alloc (.cells #[.slice none 0 0, .int .i64 0] 48)) w.heap.size w.heap.size (.slice none 0 0) (some []) :=
  ⟨Nat.le_refl _, Lies.new w 48 _, ⟨rfl, .inl ⟨rfl, rfl⟩⟩, fun x hx => by simp at hx⟩
theorem wnum_ok {l : List Nat} {n k : Nat} (h1 : 1 ≤ k) (h8 : k ≤ 8) (hn : n < 256 ^ k) : Oc.wnum (some l) n (k : Int) = some (l ++ Oc.be k n) := by
  rw [Oc.wnum_yes l (Oc.fit_mk (by omega) (by omega) (by simpa using hn))]
  rfl
set_option maxRecDepth 100000 in
set_option maxHeartbeats 2000000 in
theorem renc_yes (f : Frm) (w : World) (hb : f.bits < 18446744073709551616) (h : okB f = true) :
    Calls Try.prog 8 #[val f] w fun e w' => ∃ q d, e = .returned (.tuple #[.slice q ((raw f).length + 2) d, .int .i64 0]) ∧ (raw f).length + 2 ≤ d ∧ At w' q ((raw f).length + 2) (Ck.tight (raw f)) ∧ Below w.heap.size w w' := by
  have R := Lib.hid (fun W => rright_any f W hb)
  rw [h] at R
  have hnum : numB f = true := by
    simp only [okB, Bool.and_eq_true] at h
    exact h.1
  obtain ⟨h1, h2, h3, h4, h5, h6⟩ := num_of hnum
  have X0 := Lib.hid (box_new w 24 f)
  have B0 := Lib.hid ((Below.refl w.heap.size w).alloc (Nat.le_refl _) (.cells #[.int .i64 f.zone, .int .i64 f.seq, .int .i64 f.minute, .bool f.door, .bool f.opn, .int .u64 (f.bits : Int)] 24))
  clear h hnum
  have HR : Hid (raw f = Oc.be 1 (bit f.door) ++ Oc.be 1 f.zone.toNat ++ Oc.be 2 f.seq.toNat ++ Oc.be 3 f.minute.toNat ++ (if f.door = true then Oc.be 1 (bit f.opn) else Oc.be 8 f.bits)) := Lib.hid (by
    unfold raw
    cases f.door <;> simp)
  have N1 : Hid (∀ l : List Nat, Oc.wnum (some l) f.zone.toNat 1 = some (l ++ Oc.be 1 f.zone.toNat)) := Lib.hid (fun l => wnum_ok (k := 1) (by decide) (by decide) (by omega))
  have N2 : Hid (∀ l : List Nat, Oc.wnum (some l) f.seq.toNat 2 = some (l ++ Oc.be 2 f.seq.toNat)) := Lib.hid (fun l => wnum_ok (k := 2) (by decide) (by decide) (by omega))
  have N3 : Hid (∀ l : List Nat, Oc.wnum (some l) f.minute.toNat 3 = some (l ++ Oc.be 3 f.minute.toNat)) := Lib.hid (fun l => wnum_ok (k := 3) (by decide) (by decide) (by omega))
  have NB : Hid (∀ (l : List Nat) (x : Bool), Oc.wnum (some l) (if x = true then 1 else 0) 1 = some (l ++ Oc.be 1 (bit x))) := Lib.hid (fun l x => wnum_ok (k := 1) (by decide) (by decide) (by cases x <;> decide))
  have N8 : Hid (∀ l : List Nat, Oc.wnum (some l) f.bits 8 = some (l ++ Oc.be 8 f.bits)) := Lib.hid (fun l => wnum_ok (k := 8) (by decide) (by decide) (by omega))
  have HB := Lib.hid hb
  clear hb
  obtain ⟨z, s, m, d, o, b⟩ := f
  unfold val at *
  simp only at *
  obtain ⟨zn, rfl⟩ : ∃ zn : Nat, z = zn := ⟨z.toNat, by omega⟩
  obtain ⟨sn, rfl⟩ : ∃ sn : Nat, s = sn := ⟨s.toNat, by omega⟩
  obtain ⟨mn, rfl⟩ : ∃ mn : Nat, m = mn := ⟨m.toNat, by omega⟩
  simp only [Int.toNat_natCast] at N1 N2 N3 HR
  go_enter Try.func8, Try.ntmps8
  go_wp2_with fail
  refine (R.out _).mono ?_
  rintro e w1 ⟨rfl, hb⟩
  have B1 := Lib.hid (B0.out.trans (hb.mono B0.out.size))
  have X1 := Lib.hid (X0.out.keep hb)
  clear hb B0 X0 R
  have P2 := Lib.hid (rw_new w1)
  have C2 := Lib.hid (alloc_below w1 (.cells #[.slice none 0 0, .int .i64 0] 48))
  obtain ⟨x0, x1, x2, x3, x4, x5⟩ := X1.out.keep C2.out
  go_wp2_with fail
  refine (Ob.rbool_any _ _ _ _ d _ P2.out (short_some (by decide))).mono ?_
  rintro e w3 ⟨rfl, hw⟩
  rw [NB.out] at hw
  obtain ⟨v3, p3, c3⟩ := rwrote_below P2.out C2.out hw
  have P3 := Lib.hid p3
  have C3 := Lib.hid c3
  clear x0 x1 x2 x3 x4 x5 hw p3 c3 P2 C2
  obtain ⟨x0, x1, x2, x3, x4, x5⟩ := X1.out.keep C3.out
  go_wp2_with fail
  refine (Ob.rput_any _ _ _ _ zn 1 _ P3.out (by omega) (short_some (by simp [Oc.be_length]))).mono ?_
  rintro e w4 ⟨rfl, hw⟩
  rw [N1.out] at hw
  obtain ⟨v4, p4, c4⟩ := rwrote_below P3.out C3.out hw
  have P4 := Lib.hid p4
  have C4 := Lib.hid c4
  clear x0 x1 x2 x3 x4 x5 hw p4 c4 P3 C3
  obtain ⟨x0, x1, x2, x3, x4, x5⟩ := X1.out.keep C4.out
  go_wp2_with fail
  refine (Ob.rput_any _ _ _ _ sn 2 _ P4.out (by omega) (short_some (by simp [Oc.be_length]))).mono ?_
  rintro e w5 ⟨rfl, hw⟩
  rw [N2.out] at hw
  obtain ⟨v5, p5, c5⟩ := rwrote_below P4.out C4.out hw
  have P5 := Lib.hid p5
  have C5 := Lib.hid c5
  clear x0 x1 x2 x3 x4 x5 hw p5 c5 P4 C4
  obtain ⟨x0, x1, x2, x3, x4, x5⟩ := X1.out.keep C5.out
  go_wp2_with fail
  refine (Ob.rput_any _ _ _ _ mn 3 _ P5.out (by omega) (short_some (by simp [Oc.be_length]))).mono ?_
  rintro e w6 ⟨rfl, hw⟩
  rw [N3.out] at hw
  obtain ⟨v6, p6, c6⟩ := rwrote_below P5.out C5.out hw
  have P6 := Lib.hid p6
  have C6 := Lib.hid c6
  clear x0 x1 x2 x3 x4 x5 hw p6 c6 P5 C5
  obtain ⟨x0, x1, x2, x3, x4, x5⟩ := X1.out.keep C6.out
  cases d
  · go_wp2_with fail
    refine (Ob.rput_any _ _ _ _ b 8 _ P6.out HB.out (short_some (by simp [Oc.be_length]))).mono ?_
    rintro e w7 ⟨rfl, hw⟩
    rw [N8.out] at hw
    have E : Hid (raw ⟨zn, sn, mn, false, o, b⟩ = [] ++ Oc.be 1 (bit false) ++ Oc.be 1 zn ++ Oc.be 2 sn ++ Oc.be 3 mn ++ Oc.be 8 b) := Lib.hid (by rw [HR.out]; simp)
    rw [← E.out] at hw
    obtain ⟨v7, p7, c7⟩ := rwrote_below P6.out C6.out hw
    obtain ⟨hB7, hl7, ho7, hx7⟩ := p7
    have cv : w7.cell? ⟨w1.heap.size, 0, none⟩ = some v7 := hl7.cell 0
    obtain ⟨q7, d7, rfl, hd7, hA7⟩ := at_own rfl hx7 ho7
    have S := Lib.hid (Ck.rseal_any q7 _ d7 _ w7 (by rw [raw_length]; split <;> decide) hA7)
    have C7 := Lib.hid c7
    clear x0 x1 x2 x3 x4 x5 hw c7 P6 C6 hB7 hl7 ho7 hx7 hA7
    go_wp2_with fail
    refine S.out.mono ?_
    rintro e w8 ⟨q8, d8, rfl, hd8, hA8, hb8⟩
    have A8 := Lib.hid hA8
    have B8 := Lib.hid ((B1.out.trans (C7.out.mono B1.out.size)).trans (hb8.mono (Nat.le_trans B1.out.size C7.out.size)))
    clear hA8 hb8
    go_wp2
    go_ret2
    exact ⟨q8, d8, rfl, hd8, A8.out, B8.out⟩
  · go_wp2_with fail
    refine (Ob.rbool_any _ _ _ _ o _ P6.out (short_some (by simp [Oc.be_length]))).mono ?_
    rintro e w7 ⟨rfl, hw⟩
    rw [NB.out] at hw
    have E : Hid (raw ⟨zn, sn, mn, true, o, b⟩ = [] ++ Oc.be 1 (bit true) ++ Oc.be 1 zn ++ Oc.be 2 sn ++ Oc.be 3 mn ++ Oc.be 1 (bit o)) := Lib.hid (by rw [HR.out]; simp)
    rw [← E.out] at hw
    obtain ⟨v7, p7, c7⟩ := rwrote_below P6.out C6.out hw
    obtain ⟨hB7, hl7, ho7, hx7⟩ := p7
    have cv : w7.cell? ⟨w1.heap.size, 0, none⟩ = some v7 := hl7.cell 0
    obtain ⟨q7, d7, rfl, hd7, hA7⟩ := at_own rfl hx7 ho7
    have S := Lib.hid (Ck.rseal_any q7 _ d7 _ w7 (by rw [raw_length]; split <;> decide) hA7)
    have C7 := Lib.hid c7
    clear x0 x1 x2 x3 x4 x5 hw c7 P6 C6 hB7 hl7 ho7 hx7 hA7
    go_wp2_with fail
    refine S.out.mono ?_
    rintro e w8 ⟨q8, d8, rfl, hd8, hA8, hb8⟩
    have A8 := Lib.hid hA8
    have B8 := Lib.hid ((B1.out.trans (C7.out.mono B1.out.size)).trans (hb8.mono (Nat.le_trans B1.out.size C7.out.size)))
    clear hA8 hb8
    go_wp2
    go_ret2
    exact ⟨q8, d8, rfl, hd8, A8.out, B8.out⟩
end Fr
end Go.Proofs.Ytbnnijcjlafcpaa
