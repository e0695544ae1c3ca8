/- The walk over the law that holds package frame against the document's answer. Conditions: the list's cells hold bytes, the frame's Bits are a uint64's. -/
import Derived.Test.YtbnnijcjlafcpaaFrL1
import Derived.Test.YtbnnijcjlafcpaaSame
import Derived.Test.YtbnnijcjlafcpaaFr4
namespace Go.Proofs.Ytbnnijcjlafcpaa
open Go.RowKit

namespace Fr
/-- A frame's bytes, or none, and the error. -/
def encL (f : Frm) : List Nat := if okB f then Ck.tight (raw f) else []
def encE (f : Frm) : Nat := if okB f then 0 else 1
theorem encL_lt (f : Frm) : ∀ x ∈ encL f, x < 256 := by
  unfold encL
  split
  · exact Ck.tight_lt (raw_lt f)
  · simp
theorem encL_len (f : Frm) : (encL f).length ≤ 17 := by
  unfold encL
  split
  · rw [Ck.tight_length, raw_length]
    split <;> simp
  · simp
theorem fenc_all (f : Frm) (w : World) (hb : f.bits < 18446744073709551616) :
    Calls Try.prog 7 #[val f] w fun e w' => ∃ q d, e = .returned (.tuple #[.slice q (encL f).length d, .int .i64 (encE f : Nat)]) ∧ (encL f).length ≤ d ∧ At w' q (encL f).length (encL f) ∧ Below w.heap.size w w' := by
  by_cases h : okB f = true
  · refine (fenc_yes f w hb h).mono fun e w' ⟨q, d, he, hd, hA, hB⟩ => ⟨q, d, ?_⟩
    unfold encL encE
    rw [if_pos h, if_pos h, Ck.tight_length]
    exact ⟨he, hd, hA, hB⟩
  · refine (fenc_no f w (by simpa using h)).mono fun e w' ⟨he, hB⟩ => ⟨none, 0, ?_⟩
    unfold encL encE
    rw [if_neg h, if_neg h]
    exact ⟨he, Nat.le_refl _, at_nil w', hB⟩
theorem renc_all (f : Frm) (w : World) (hb : f.bits < 18446744073709551616) :
    Calls Try.prog 8 #[val f] w fun e w' => ∃ q d, e = .returned (.tuple #[.slice q (encL f).length d, .int .i64 (encE f : Nat)]) ∧ (encL f).length ≤ d ∧ At w' q (encL f).length (encL f) ∧ Below w.heap.size w w' := by
  by_cases h : okB f = true
  · refine (renc_yes f w hb h).mono fun e w' ⟨q, d, he, hd, hA, hB⟩ => ⟨q, d, ?_⟩
    unfold encL encE
    rw [if_pos h, if_pos h, Ck.tight_length]
    exact ⟨he, hd, hA, hB⟩
  · refine (renc_no f w hb (by simpa using h)).mono fun e w' ⟨he, hB⟩ => ⟨none, 0, ?_⟩
    unfold encL encE
    rw [if_neg h, if_neg h]
    exact ⟨he, Nat.le_refl _, at_nil w', hB⟩
theorem tells_long (f : Frm) (p : Option Addr) (n c : Nat) (w : World) (hn : 100 < n) (hbig : n ≤ 9223372036854775807) :
    Calls Try.prog 3 #[val f, .slice p n c] w fun e w' => e = .returned (.bool true) ∧ Below w.heap.size w w' := by
  have h1 : (100 : Int) < (n : Int) := by omega
  obtain ⟨z, s, m, d, o, b⟩ := f
  have B0 := Lib.hid (alloc_below w (.cells #[.int .i64 z, .int .i64 s, .int .i64 m, .bool d, .bool o, .int .u64 (b : Int)] 24))
  unfold val
  simp only
  go_enter Try.func3, Try.ntmps3
  go_wp2_with fail
  refine (alive_any _).mono ?_
  rintro e w1 ⟨rfl, hb⟩
  have HB := Lib.hid (B0.out.trans (hb.mono B0.out.size))
  clear hb
  go_wp2
  go_ret
  exact ⟨rfl, HB.out⟩
set_option maxRecDepth 100000 in
set_option maxHeartbeats 8000000 in
theorem tells_short (f : Frm) (p : Option Addr) (n c : Nat) (b : List Nat) (w : World) (hb : f.bits < 18446744073709551616) (hn : n ≤ 100) (hnc : n ≤ c) (hA : At w p n b) :
    Calls Try.prog 3 #[val f, .slice p n c] w fun e w' => e = .returned (.bool true) ∧ Below w.heap.size w w' := by
  have hn' : (n : Int) ≤ 100 := by omega
  have K1 := Lib.hid (fun W => rright_any f W hb)
  have K2 := Lib.hid (fun W => fenc_all f W hb)
  have K3 := Lib.hid (fun W => renc_all f W hb)
  have K4 := Lib.hid (fun W => ften_any f W)
  have K5 := Lib.hid (fun W => rten_any f W hb)
  have K6 := Lib.hid (fun W (hW : Below w.heap.size w W) => fdec_any p n c b W hnc (hA.keep hW))
  have K7 := Lib.hid (fun W (hW : Below w.heap.size w W) => rdec_any p n c b W hnc (hA.keep hW))
  have K8 := Lib.hid (fun q q2 d d2 W hA hA2 => same_one q q2 (encL f).length d d2 (encL f) W (Nat.le_trans (encL_len f) (by decide)) hA hA2)
  have K9 := Lib.hid (fun W => fright_any f W)
  have K10 := Lib.hid (fun (_ : okB f = true) q d W hd hA => fdec_any q (encL f).length d (encL f) W hd hA)
  have KB : Hid (okB f = true → dec (encL f) = (f, 0)) := Lib.hid (fun h => by
    unfold encL
    rw [if_pos h]
    exact dec_tight hb h)
  have KD := Lib.hid (fun (h : (dec b).2 = 0) => tight_dec hA.2.1 h)
  have K11 := Lib.hid (fun W (h : (dec b).2 = 0) => fenc_yes (dec b).1 W (tight_dec hA.2.1 h).2.1 (tight_dec hA.2.1 h).1)
  have K12 := Lib.hid (fun q d W (hW : Below w.heap.size w W) hA2 => same_one q p n d c b W (by omega) hA2 (hA.keep hW))
  have HL := Lib.hid hA.1
  have X0 := Lib.hid (box_new w 24 f)
  have B0 := Lib.hid (alloc_below w (.cells #[.int .i64 f.zone, .int .i64 f.seq, .int .i64 f.minute, .bool f.door, .bool f.opn, .int .u64 (f.bits : Int)] 24))
  clear hb hn hnc hA
  generalize dec b = r at *
  obtain ⟨⟨xz, xs, xm, xd, xo, xb⟩, k⟩ := r
  generalize okB f = u at *
  generalize encL f = L at *
  generalize encE f = E at *
  generalize ten f = T at *
  obtain ⟨T1, T2⟩ := T
  obtain ⟨z, s, m, d, o, bi⟩ := f
  unfold val at *
  simp only at *
  go_enter Try.func3, Try.ntmps3
  obtain ⟨x0, x1, x2, x3, x4, x5⟩ := X0.out
  go_wp2_with fail
  refine (K1.out _).mono ?_
  rintro e w1 ⟨rfl, hb⟩
  have X1 := Lib.hid (X0.out.keep hb)
  have B1 := Lib.hid (B0.out.trans (hb.mono B0.out.size))
  clear x0 x1 x2 x3 x4 x5 hb X0 B0
  obtain ⟨x0, x1, x2, x3, x4, x5⟩ := X1.out
  go_wp2_with fail
  refine (K2.out _).mono ?_
  rintro e w2 ⟨q1, d1, rfl, hd1, hA1, hb⟩
  have X2 := Lib.hid (X1.out.keep hb)
  have B2 := Lib.hid (B1.out.trans (hb.mono B1.out.size))
  have A1 := Lib.hid hA1
  clear hA1
  clear x0 x1 x2 x3 x4 x5 hb X1 B1
  obtain ⟨x0, x1, x2, x3, x4, x5⟩ := X2.out
  go_wp2_with fail
  refine (K3.out _).mono ?_
  rintro e w3 ⟨q2, d2, rfl, _, hA2, hb⟩
  have X3 := Lib.hid (X2.out.keep hb)
  have B3 := Lib.hid (B2.out.trans (hb.mono B2.out.size))
  have A2 := Lib.hid hA2
  have A1a := Lib.hid (A1.out.keep hb)
  clear hA2 A1
  clear x0 x1 x2 x3 x4 x5 hb X2 B2
  obtain ⟨x0, x1, x2, x3, x4, x5⟩ := X3.out
  go_wp2_with fail
  refine (K4.out _).mono ?_
  rintro e w4 ⟨rfl, hb⟩
  have X4 := Lib.hid (X3.out.keep hb)
  have B4 := Lib.hid (B3.out.trans (hb.mono B3.out.size))
  have A1b := Lib.hid (A1a.out.keep hb)
  have A2b := Lib.hid (A2.out.keep hb)
  clear A1a A2
  clear x0 x1 x2 x3 x4 x5 hb X3 B3
  obtain ⟨x0, x1, x2, x3, x4, x5⟩ := X4.out
  go_wp2_with fail
  refine (K5.out _).mono ?_
  rintro e w5 ⟨rfl, hb⟩
  have X5 := Lib.hid (X4.out.keep hb)
  have B5 := Lib.hid (B4.out.trans (hb.mono B4.out.size))
  have A1c := Lib.hid (A1b.out.keep hb)
  have A2c := Lib.hid (A2b.out.keep hb)
  clear A1b A2b
  clear x0 x1 x2 x3 x4 x5 hb X4 B4
  obtain ⟨x0, x1, x2, x3, x4, x5⟩ := X5.out
  go_wp2_with fail
  refine (K6.out _ B5.out).mono ?_
  rintro e w6 ⟨rfl, hb⟩
  have X6 := Lib.hid ((X5.out.keep hb).keep (alloc_below w6 (.cells (fcells ⟨xz, xs, xm, xd, xo, xb⟩) 24)))
  have B6' : Below w.heap.size w w6 := B5.out.trans (hb.mono B5.out.size)
  have B6 := Lib.hid (B6'.alloc B6'.size (.cells (fcells ⟨xz, xs, xm, xd, xo, xb⟩) 24))
  have A1d := Lib.hid ((A1c.out.keep hb).keep (alloc_below w6 (.cells (fcells ⟨xz, xs, xm, xd, xo, xb⟩) 24)))
  have A2d := Lib.hid ((A2c.out.keep hb).keep (alloc_below w6 (.cells (fcells ⟨xz, xs, xm, xd, xo, xb⟩) 24)))
  have N6 := Lib.hid (Lies.new w6 24 (fcells ⟨xz, xs, xm, xd, xo, xb⟩))
  clear x0 x1 x2 x3 x4 x5 hb X5 B5 B6' A1c A2c
  go_wp2_with fail
  refine (K7.out _ B6.out).mono ?_
  rintro e w7 ⟨rfl, hb⟩
  have X7 := Lib.hid ((X6.out.keep hb).keep (alloc_below w7 (.cells (fcells ⟨xz, xs, xm, xd, xo, xb⟩) 24)))
  have B7' : Below w.heap.size w w7 := B6.out.trans (hb.mono B6.out.size)
  have B7 := Lib.hid (B7'.alloc B7'.size (.cells (fcells ⟨xz, xs, xm, xd, xo, xb⟩) 24))
  have A1e := Lib.hid ((A1d.out.keep hb).keep (alloc_below w7 (.cells (fcells ⟨xz, xs, xm, xd, xo, xb⟩) 24)))
  have A2e := Lib.hid ((A2d.out.keep hb).keep (alloc_below w7 (.cells (fcells ⟨xz, xs, xm, xd, xo, xb⟩) 24)))
  have M6 := Lib.hid ((N6.out.below hb N6.out.lt).alloc (.cells (fcells ⟨xz, xs, xm, xd, xo, xb⟩) 24))
  have N7 := Lib.hid (Lies.new w7 24 (fcells ⟨xz, xs, xm, xd, xo, xb⟩))
  clear hb X6 B6 B7' A1d A2d N6
  go_wp2_with fail
  refine (K8.out _ _ d1 _ _ A1e.out A2e.out).mono ?_
  rintro e w8 ⟨rfl, hb⟩
  have X8 := Lib.hid (X7.out.keep hb)
  have B8 := Lib.hid (B7.out.trans (hb.mono B7.out.size))
  have A1f := Lib.hid (A1e.out.keep hb)
  have M8 := Lib.hid (M6.out.below hb M6.out.lt)
  have N8 := Lib.hid (N7.out.below hb N7.out.lt)
  clear hb X7 B7 A1e A2e M6 N7
  obtain ⟨x0, x1, x2, x3, x4, x5⟩ := X8.out
  go_wp2_with fail
  refine (K9.out _).mono ?_
  rintro e w9 ⟨rfl, hb⟩
  have X9 := Lib.hid (X8.out.keep hb)
  have B9 := Lib.hid (B8.out.trans (hb.mono B8.out.size))
  have A1g := Lib.hid (A1f.out.keep hb)
  have M9 := Lib.hid (M8.out.below hb M8.out.lt)
  have N9 := Lib.hid (N8.out.below hb N8.out.lt)
  clear x0 x1 x2 x3 x4 x5 hb X8 B8 A1f M8 N8
  have m0 : w9.cell? ⟨w6.heap.size, 0, none⟩ = some (.int .i64 xz) := M9.out.cell 0
  have m1 : w9.cell? ⟨w6.heap.size, 1, none⟩ = some (.int .i64 xs) := M9.out.cell 1
  have m2 : w9.cell? ⟨w6.heap.size, 2, none⟩ = some (.int .i64 xm) := M9.out.cell 2
  have m3 : w9.cell? ⟨w6.heap.size, 3, none⟩ = some (.bool xd) := M9.out.cell 3
  have m4 : w9.cell? ⟨w6.heap.size, 4, none⟩ = some (.bool xo) := M9.out.cell 4
  have m5 : w9.cell? ⟨w6.heap.size, 5, none⟩ = some (.int .u64 (xb : Int)) := M9.out.cell 5
  have n0 : w9.cell? ⟨w7.heap.size, 0, none⟩ = some (.int .i64 xz) := N9.out.cell 0
  have n1 : w9.cell? ⟨w7.heap.size, 1, none⟩ = some (.int .i64 xs) := N9.out.cell 1
  have n2 : w9.cell? ⟨w7.heap.size, 2, none⟩ = some (.int .i64 xm) := N9.out.cell 2
  have n3 : w9.cell? ⟨w7.heap.size, 3, none⟩ = some (.bool xd) := N9.out.cell 3
  have n4 : w9.cell? ⟨w7.heap.size, 4, none⟩ = some (.bool xo) := N9.out.cell 4
  have n5 : w9.cell? ⟨w7.heap.size, 5, none⟩ = some (.int .u64 (xb : Int)) := N9.out.cell 5
  clear N9 K1 K2 K3 K4 K5 K6 K7 K8 K9
  obtain ⟨x0, x1, x2, x3, x4, x5⟩ := X9.out
  cases u
  · by_cases hk : k = 0
    · have t0 : ((k : Int) != 0) = false := by rw [bne_eq_false_iff_eq]; omega
      go_wp2_with fail
      refine (K11.out _ hk).mono ?_
      rintro e w11 ⟨q4, d4, rfl, _, hA4, hb⟩
      obtain ⟨_, _, ht⟩ := KD.out hk
      rw [← Ck.tight_length, ht, HL.out] at hA4
      have LT := Lib.hid (show (raw ⟨xz, xs, xm, xd, xo, xb⟩).length + 2 = n by rw [← Ck.tight_length, ht, HL.out])
      rw [LT.out]
      have A11 := Lib.hid hA4
      have B11 := Lib.hid (B9.out.trans (hb.mono B9.out.size))
      clear hA4 hb ht m0 m1 m2 m3 m4 m5
      go_wp2_with fail
      refine (K12.out _ _ _ B11.out A11.out).mono ?_
      rintro e w12 ⟨rfl, hb⟩
      have B12 := Lib.hid (B11.out.trans (hb.mono B11.out.size))
      clear hb
      go_wp2_with fail
      refine (alive_any _).mono ?_
      rintro e w13 ⟨rfl, hb⟩
      have B13 := Lib.hid (B12.out.trans (hb.mono B12.out.size))
      clear hb
      go_wp2
      go_ret
      exact ⟨rfl, B13.out⟩
    · have t0 : ((k : Int) != 0) = true := by rw [bne_iff_ne]; omega
      go_wp2_with fail
      refine (alive_any _).mono ?_
      rintro e w11 ⟨rfl, hb⟩
      have B11 := Lib.hid (B9.out.trans (hb.mono B9.out.size))
      clear hb
      go_wp2
      go_ret
      exact ⟨rfl, B11.out⟩
  · have D10 := Lib.hid (K10.out rfl q1 d1)
    rw [KB.out rfl] at D10
    simp only at D10
    go_wp2_with fail
    refine (D10.out _ hd1 A1g.out).mono ?_
    rintro e w10 ⟨rfl, hb⟩
    have X10 := Lib.hid ((X9.out.keep hb).keep (alloc_below w10 (.cells (fcells ⟨z, s, m, d, o, bi⟩) 24)))
    have B10' : Below w.heap.size w w10 := B9.out.trans (hb.mono B9.out.size)
    have B10 := Lib.hid (B10'.alloc B10'.size (.cells (fcells ⟨z, s, m, d, o, bi⟩) 24))
    have M10' := M9.out.below hb M9.out.lt
    have M10 := Lib.hid (M10'.alloc (.cells (fcells ⟨z, s, m, d, o, bi⟩) 24))
    have l10 := M10'.lt
    have l11 := X9.out.keep hb
    have l12 := World.block_lt_of_cell? w10 _ l11.1
    clear x0 x1 x2 x3 x4 x5 hb X9 B9 M9 B10' m0 m1 m2 m3 m4 m5 n0 n1 n2 n3 n4 n5 K10 KB D10
    have m0 : w10.cell? ⟨w6.heap.size, 0, none⟩ = some (.int .i64 xz) := M10'.cell 0
    have m1 : w10.cell? ⟨w6.heap.size, 1, none⟩ = some (.int .i64 xs) := M10'.cell 1
    have m2 : w10.cell? ⟨w6.heap.size, 2, none⟩ = some (.int .i64 xm) := M10'.cell 2
    have m3 : w10.cell? ⟨w6.heap.size, 3, none⟩ = some (.bool xd) := M10'.cell 3
    have m4 : w10.cell? ⟨w6.heap.size, 4, none⟩ = some (.bool xo) := M10'.cell 4
    have m5 : w10.cell? ⟨w6.heap.size, 5, none⟩ = some (.int .u64 (xb : Int)) := M10'.cell 5
    obtain ⟨x0, x1, x2, x3, x4, x5⟩ := l11
    have F1 : ∀ o i, (w10.alloc o).cell? ⟨w6.heap.size, i, none⟩ = w10.cell? ⟨w6.heap.size, i, none⟩ := fun o i => (alloc_below w10 o).cell (p := ⟨w6.heap.size, i, none⟩) l10
    have F2 : ∀ o i, (w10.alloc o).cell? ⟨w.heap.size, i, none⟩ = w10.cell? ⟨w.heap.size, i, none⟩ := fun o i => (alloc_below w10 o).cell (p := ⟨w.heap.size, i, none⟩) l12
    clear M10' l10 l12
    by_cases hk : k = 0
    · have t0 : ((k : Int) != 0) = false := by rw [bne_eq_false_iff_eq]; omega
      go_wp2_with fail
      refine (K11.out _ hk).mono ?_
      rintro e w11 ⟨q4, d4, rfl, _, hA4, hb⟩
      obtain ⟨_, _, ht⟩ := KD.out hk
      rw [← Ck.tight_length, ht, HL.out] at hA4
      have LT := Lib.hid (show (raw ⟨xz, xs, xm, xd, xo, xb⟩).length + 2 = n by rw [← Ck.tight_length, ht, HL.out])
      rw [LT.out]
      have A11 := Lib.hid hA4
      have B11 := Lib.hid (B10.out.trans (hb.mono B10.out.size))
      clear hA4 hb ht m0 m1 m2 m3 m4 m5 x0 x1 x2 x3 x4 x5 F1 F2
      go_wp2_with fail
      refine (K12.out _ _ _ B11.out A11.out).mono ?_
      rintro e w12 ⟨rfl, hb⟩
      have B12 := Lib.hid (B11.out.trans (hb.mono B11.out.size))
      clear hb
      go_wp2_with fail
      refine (alive_any _).mono ?_
      rintro e w13 ⟨rfl, hb⟩
      have B13 := Lib.hid (B12.out.trans (hb.mono B12.out.size))
      clear hb
      go_wp2
      go_ret
      exact ⟨rfl, B13.out⟩
    · have t0 : ((k : Int) != 0) = true := by rw [bne_iff_ne]; omega
      go_wp2_with fail
      refine (alive_any _).mono ?_
      rintro e w11 ⟨rfl, hb⟩
      have B11 := Lib.hid (B10.out.trans (hb.mono B10.out.size))
      clear hb
      go_wp2
      go_ret
      exact ⟨rfl, B11.out⟩
end Fr
end Go.Proofs.Ytbnnijcjlafcpaa
