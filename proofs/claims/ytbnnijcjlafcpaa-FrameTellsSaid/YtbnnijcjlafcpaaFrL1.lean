/- The live question of layer 5's laws: it returns true. No condition but those written. -/
import Derived.Test.YtbnnijcjlafcpaaFrP2
import Derived.Test.YtbnnijcjlafcpaaFrP4
namespace Go.Proofs.Ytbnnijcjlafcpaa
open Go.RowKit

namespace Fr
def fA : Frm := ⟨3, 258, 65537, false, false, 0x4014cccccccccccd⟩
def fB : Frm := ⟨16, 0, 5, true, true, 0⟩
def fC : Frm := ⟨17, 0, 0, false, false, 0⟩
def fD : Frm := ⟨3, 0, 0, false, false, 0x4014cccccccccccd⟩
theorem fA_ok : okB fA = true := by decide +kernel
theorem fB_ok : okB fB = true := by decide +kernel
theorem fC_no : okB fC = false := by decide +kernel
theorem fD_ten : ten fD = (52, 0) := by decide +kernel
def bA : List Nat := Ck.tight (raw fA)
def bB : List Nat := Ck.tight (raw fB)
theorem bA_len : bA.length = 17 := by
  unfold bA
  rw [Ck.tight_length, raw_length]
  rfl
theorem bB_len : bB.length = 10 := by
  unfold bB
  rw [Ck.tight_length, raw_length]
  rfl
theorem bA_at : bA.getD 0 0 = 0 ∧ bA.getD 1 0 = 3 ∧ bA.getD 2 0 = 1 ∧ bA.getD 3 0 = 2 ∧ bA.getD 4 0 = 1 ∧ bA.getD 6 0 = 1 := by
  unfold bA
  rw [Ck.tight_eq]
  decide +kernel
theorem bB_at : bB.getD 0 0 = 1 ∧ bB.getD 3 0 = 0 ∧ bB.getD 7 0 = 1 := by
  unfold bB
  rw [Ck.tight_eq]
  decide +kernel
theorem bB_dec : dec bB = (fB, 0) := dec_tight (f := fB) (by decide) fB_ok
theorem bB_bad : dec (bB.set 3 1) = (zero, 3) := by
  have h : Ck.goodB (bB.set 3 1) = false := by
    unfold bB
    rw [Ck.tight_eq]
    decide +kernel
  unfold dec
  rw [if_neg (by simp [bB_len]), if_pos h]
theorem bA_cut : dec (bA.take 16) = (zero, 2) := by
  unfold dec
  rw [if_pos (by simp [bA_len])]
theorem bA_lt : ∀ x ∈ bA, x < 256 := Ck.tight_lt (raw_lt _)
theorem bB_lt : ∀ x ∈ bB, x < 256 := Ck.tight_lt (raw_lt _)
theorem own_below {w w' : World} {base B : Nat} {e : TypeId} {size n g cap : Nat} {xs : List Value} (h : w.ownsRow base e size (.slice (some ⟨g, 0, none⟩) n cap) n xs) (hb : Below B w w') (hg : g < B) : w'.ownsRow base e size (.slice (some ⟨g, 0, none⟩) n cap) n xs := by
  refine ⟨h.1, ?_⟩
  rcases h.2 with ⟨h0, _⟩ | ⟨g', cap', cur, h0, h1, h2, r⟩
  · cases h0
  · cases h0
    exact .inr ⟨g, cap, cur, rfl, h1, (hb.block g hg).trans h2, r⟩
theorem own_at {w : World} {base g n cap : Nat} {l : List Nat} (hl : l.length = n) (hx : ∀ x ∈ l, x < 256) (h : w.ownsRow base 5 1 (.slice (some ⟨g, 0, none⟩) n cap) n (bys l)) : n ≤ cap ∧ At w (some ⟨g, 0, none⟩) n l := by
  obtain ⟨q, c, e, hc, hA⟩ := at_own hl hx h
  cases e
  exact ⟨hc, hA⟩
/-- A byte of bytes that lie in a block. -/
theorem byte_at {w : World} {g n : Nat} {l : List Nat} (h : At w (some ⟨g, 0, none⟩) n l) {i : Nat} (hi : i < n) : w.cell? ⟨g, i, none⟩ = some (.int .u8 ((l.getD i 0 : Nat) : Int)) := by
  obtain ⟨b, o, e, hj⟩ := h.2.2 (by omega)
  cases e
  have := hj i hi
  rwa [Nat.zero_add] at this
def fcells (f : Frm) : Array Value := #[.int .i64 f.zone, .int .i64 f.seq, .int .i64 f.minute, .bool f.door, .bool f.opn, .int .u64 (f.bits : Int)]
set_option maxRecDepth 100000 in
set_option maxHeartbeats 4000000 in
/-- The live question. -/
theorem alive_any (w : World) : Calls Try.prog 5 #[] w fun e w' => e = .returned (.bool true) ∧ Below w.heap.size w w' := by
  have E1 := Lib.hid (fenc_own fA w (by decide) fA_ok)
  have E2 := Lib.hid (fun W => fenc_own fB W (by decide) fB_ok)
  have E4 := Lib.hid (fun W => fenc_no fC W fC_no)
  have T6 := Lib.hid (fun W => ften_any fD W)
  rw [fD_ten] at T6
  have LA : (raw fA).length + 2 = 17 := by rw [← Ck.tight_length]; exact bA_len
  have LB : (raw fB).length + 2 = 10 := by rw [← Ck.tight_length]; exact bB_len
  rw [LA] at E1
  rw [LB] at E2
  clear LA LB
  unfold val fA at E1
  unfold val fB at E2
  unfold val fC at E4
  unfold val fD at T6
  simp only at E1 E2 E4 T6
  go_enter Try.func5, Try.ntmps5
  go_wp2_with fail
  refine E1.out.mono ?_
  rintro e w1 ⟨v1, rfl, ho, hb⟩
  obtain ⟨g1, c1, rfl, hg1, hl1⟩ := ho.form (by decide)
  obtain ⟨hc1, hA⟩ := own_at (l := bA) bA_len bA_lt ho
  have A1 := Lib.hid hA
  have B1 := Lib.hid hb
  have HC1 := Lib.hid hc1
  clear ho hb hA hc1 hg1 hl1
  go_wp2_with fail
  refine (E2.out _).mono ?_
  rintro e w2 ⟨v2, rfl, ho, hb⟩
  obtain ⟨g2, c2, rfl, hg2, hl2⟩ := ho.form (by decide)
  obtain ⟨hc2, hA⟩ := own_at (l := bB) bB_len bB_lt ho
  have D3 := Lib.hid (fun W (h : Below w2.heap.size w2 W) => fdec_any _ 10 c2 bB W hc2 (hA.keep h))
  rw [bB_dec] at D3
  unfold val fB at D3
  simp only at D3
  have O2 := Lib.hid (show w2.ownsRow w1.heap.size 5 1 (.slice (some ⟨g2, 0, none⟩) 10 c2) 10 (bys bB) from ho)
  have B2 := Lib.hid hb
  have H2 := Lib.hid hg2
  have H2' := Lib.hid hl2
  clear ho hb hA hg2 hl2 hc2
  go_wp2_with fail
  refine (D3.out _ (Below.refl _ _)).mono ?_
  rintro e w3 ⟨rfl, hb⟩
  have O3 := Lib.hid (own_below O2.out hb H2'.out)
  have B3 := Lib.hid (B2.out.trans (hb.mono B2.out.size))
  have hz3 := Lib.hid (Nat.lt_of_lt_of_le H2'.out hb.size)
  clear hb O2 B2
  have X3 := Lib.hid (Lies.new w3 24 (fcells fB))
  have O3' := Lib.hid (own_below O3.out (alloc_below w3 (.cells (fcells fB) 24)) hz3.out)
  have B3' := Lib.hid (B3.out.alloc B3.out.size (.cells (fcells fB) 24))
  have N3 := Lib.hid (show g2 ≠ w3.heap.size by have := hz3.out; omega)
  go_wp2_with fail
  refine (E4.out _).mono ?_
  rintro e w4 ⟨rfl, hb⟩
  have X4 := Lib.hid (X3.out.below hb X3.out.lt)
  have O4 := Lib.hid (own_below O3'.out hb (by have := hz3.out; simp; omega))
  have B4 := Lib.hid (B3'.out.trans (hb.mono B3'.out.size))
  have Z4 := Lib.hid (Nat.lt_of_lt_of_le (show g2 < (w3.alloc (.cells (fcells fB) 24)).heap.size by have := hz3.out; simp; omega) hb.size)
  clear hb X3 O3 O3' B3 B3' hz3
  have LA := bA_len
  have LB := bB_len
  go_wp2_with fail
  refine (T6.out _).mono ?_
  rintro e w5 ⟨rfl, hb⟩
  have X5 := Lib.hid (X4.out.below hb X4.out.lt)
  have O5 := Lib.hid (own_below O4.out hb Z4.out)
  have B5 := Lib.hid (B4.out.trans (hb.mono B4.out.size))
  have Z5 := Lib.hid (Nat.lt_of_lt_of_le Z4.out hb.size)
  clear hb X4 O4 B4 Z4 LA LB
  have k3 : w5.cell? ⟨g2, 3, none⟩ = some (.int .u8 0) := by
    have := byte_at (own_at bB_len bB_lt O5.out).2 (i := 3) (by decide)
    rwa [bB_at.2.1] at this
  have f3 := O5.out.frozenAt 3
  have O6 := Lib.hid (show (w5.setCell ⟨g2, 3, none⟩ (.int .u8 1)).ownsRow w1.heap.size 5 1 (.slice (some ⟨g2, 0, none⟩) 10 c2) 10 (bys (bB.set 3 1)) from own_store O5.out 3 1)
  have X6 := Lib.hid (show Lies (w5.setCell ⟨g2, 3, none⟩ (.int .u8 1)) w3.heap.size 24 (fcells fB) from X5.out.turn (S := fun k => k = g2) ((Turn.refl (fun k => k = g2) w5).setCell (p := ⟨g2, 3, none⟩) (.inl rfl) _) (fun h => N3.out h.symm))
  have B6 := Lib.hid (show Below w1.heap.size w1 (w5.setCell ⟨g2, 3, none⟩ (.int .u8 1)) from B5.out.setCell (p := ⟨g2, 3, none⟩) H2.out _)
  have Z6 := Lib.hid (show g2 < (w5.setCell ⟨g2, 3, none⟩ (.int .u8 1)).heap.size by simpa [World.setCell] using Z5.out)
  have hlt2 : ∀ x ∈ bB.set 3 1, x < 256 := by
    intro x hx
    rcases List.mem_or_eq_of_mem_set hx with hx | rfl
    · exact bB_lt x hx
    · decide
  have hl2 : (bB.set 3 1).length = 10 := by rw [List.length_set, bB_len]
  have hoA := own_at hl2 hlt2 O6.out
  have D6 := Lib.hid (fdec_any _ 10 c2 (bB.set 3 1) _ hoA.1 hoA.2)
  rw [bB_bad] at D6
  unfold val zero at D6
  simp only at D6
  have HL := Lib.hid hl2
  have HX := Lib.hid hlt2
  have hc2 := hoA.1
  clear hoA hlt2 hl2 X5 O5 B5
  go_wp2_with fail
  refine D6.out.mono ?_
  rintro e w7 ⟨rfl, hb⟩
  clear k3 f3
  have hz7 : w3.heap.size < w7.heap.size := Nat.lt_of_lt_of_le X6.out.lt hb.size
  have X7 := Lib.hid ((X6.out.below hb X6.out.lt).alloc (.cells (fcells zero) 24))
  have O7 := Lib.hid (own_below (own_below O6.out hb Z6.out) (alloc_below w7 (.cells (fcells zero) 24)) (Nat.lt_of_lt_of_le Z6.out hb.size))
  have B7' : Below w1.heap.size w1 w7 := B6.out.trans (hb.mono B6.out.size)
  have B7 := Lib.hid (B7'.alloc B7'.size (.cells (fcells zero) 24))
  have Z7 := Lib.hid (Nat.lt_of_lt_of_le Z6.out (Nat.le_trans hb.size (size_alloc w7 (.cells (fcells zero) 24))))
  have D7 := Lib.hid (fdec_any _ 16 c1 (bA.take 16) (w7.alloc (.cells (fcells zero) 24)) (by have := HC1.out; omega) ((A1.out.keep B7.out).take 16 (by decide)))
  rw [bA_cut] at D7
  unfold val zero fcells at D7
  simp only at D7
  have hc1 : (17 : Int) ≤ (c1 : Int) := by have := HC1.out; omega
  clear hb X6 O6 B6 Z6 B7' D6 hz7
  go_wp2_with fail
  refine D7.out.mono ?_
  rintro e w8 ⟨rfl, hb⟩
  have O8 := Lib.hid (own_below O7.out hb Z7.out)
  have X8 := Lib.hid (X7.out.below hb X7.out.lt)
  have B8 := Lib.hid (B7.out.trans (hb.mono B7.out.size))
  have hA8 := A1.out.keep B8.out
  have hC8 := (own_at HL.out HX.out O8.out).2
  have a0 := byte_at hA8 (i := 0) (by decide)
  have a1 := byte_at hA8 (i := 1) (by decide)
  have a2 := byte_at hA8 (i := 2) (by decide)
  have a3 := byte_at hA8 (i := 3) (by decide)
  have a4 := byte_at hA8 (i := 4) (by decide)
  have a6 := byte_at hA8 (i := 6) (by decide)
  rw [bA_at.1] at a0
  rw [bA_at.2.1] at a1
  rw [bA_at.2.2.1] at a2
  rw [bA_at.2.2.2.1] at a3
  rw [bA_at.2.2.2.2.1] at a4
  rw [bA_at.2.2.2.2.2] at a6
  have h0 : (bB.set 3 1).getD 0 0 = 1 := by
    have := bB_at.1
    simpa [List.getD_eq_getElem?_getD] using this
  have h7 : (bB.set 3 1).getD 7 0 = 1 := by
    have := bB_at.2.2
    simpa [List.getD_eq_getElem?_getD] using this
  have e0 := byte_at hC8 (i := 0) (by decide)
  have e7 := byte_at hC8 (i := 7) (by decide)
  rw [h0] at e0
  rw [h7] at e7
  have x0 : w8.cell? ⟨w3.heap.size, 0, none⟩ = some (.int .i64 16) := X8.out.cell 0
  have x1 : w8.cell? ⟨w3.heap.size, 1, none⟩ = some (.int .i64 0) := X8.out.cell 1
  have x2 : w8.cell? ⟨w3.heap.size, 2, none⟩ = some (.int .i64 5) := X8.out.cell 2
  have x3 : w8.cell? ⟨w3.heap.size, 3, none⟩ = some (.bool true) := X8.out.cell 3
  have x4 : w8.cell? ⟨w3.heap.size, 4, none⟩ = some (.bool true) := X8.out.cell 4
  have x5 : w8.cell? ⟨w3.heap.size, 5, none⟩ = some (.int .u64 0) := X8.out.cell 5
  have l1 := World.block_lt_of_cell? w8 _ a0
  have l2 := World.block_lt_of_cell? w8 _ e0
  have l3 := World.block_lt_of_cell? w8 _ x0
  have F1 : ∀ o i, (w8.alloc o).cell? ⟨g1, i, none⟩ = w8.cell? ⟨g1, i, none⟩ := fun o i => (alloc_below w8 o).cell (p := ⟨g1, i, none⟩) l1
  have F2 : ∀ o i, (w8.alloc o).cell? ⟨g2, i, none⟩ = w8.cell? ⟨g2, i, none⟩ := fun o i => (alloc_below w8 o).cell (p := ⟨g2, i, none⟩) l2
  have F3 : ∀ o i, (w8.alloc o).cell? ⟨w3.heap.size, i, none⟩ = w8.cell? ⟨w3.heap.size, i, none⟩ := fun o i => (alloc_below w8 o).cell (p := ⟨w3.heap.size, i, none⟩) l3
  have B9 := Lib.hid ((B1.out.trans (B8.out.mono B1.out.size)).alloc (Nat.le_trans B1.out.size B8.out.size) (.cells (fcells zero) 24))
  clear hb O7 X7 B7 O8 X8 B8 hA8 hC8 h0 h7 l1 l2 l3 Z7 D7 D3 E1 E2 E4 T6
  go_wp2
  go_ret
  exact ⟨rfl, B9.out⟩
end Fr
end Go.Proofs.Ytbnnijcjlafcpaa
