/- Walks over package cert: the certificate of bytes. No condition but those written. -/
import Derived.Test.YtklhapekfgcplaaCePb
namespace Go.Proofs.Ytklhapekfgcplaa
open Go.RowKit

namespace Ce
theorem num_take (l : List Nat) {i : Nat} (hi : i < 8) : num (l.take 64) i = num l i := by
  unfold num
  rw [List.drop_take, List.take_take, Nat.min_eq_left (by omega)]
theorem said_take (l : List Nat) : said (l.take 64) = said l := by
  unfold said
  rw [num_take l (i := 0) (by decide), num_take l (i := 1) (by decide), num_take l (i := 2) (by decide), num_take l (i := 3) (by decide), num_take l (i := 4) (by decide), num_take l (i := 5) (by decide), num_take l (i := 6) (by decide), num_take l (i := 7) (by decide)]
set_option maxRecDepth 100000 in
set_option maxHeartbeats 8000000 in
theorem pdec_len (p : Option Addr) (n c : Nat) (l : List Nat) (w : World) (h : At w p n l) (hn : n ≤ 1000000) (h66 : ¬ n = 66) : Calls Try.prog 10 #[.slice p n c] w fun e w' => e = .returned (.tuple #[cval (dec l).1, .int .i64 (dec l).2]) ∧ Below w.heap.size w w' := by
  have HE : Hid (dec l = (ct0, 2)) := Lib.hid (by unfold dec; rw [if_neg (by rw [h.1]; exact h66)])
  rw [HE.out]
  have t0 : (((n : Nat) : Int) != 66) = true := by simp; omega
  have t1 : ((n : Nat) : Int) ≤ 1000000 := by omega
  have B1 := Lib.hid (alloc_below w (.cells #[.int .i64 0, .int .i64 0, .int .i64 0, .int .i64 0, .int .i64 0, .int .i64 0, .int .i64 0, .int .i64 0] 23))
  have X1 := Lib.hid (Lies.new w 23 #[.int .i64 0, .int .i64 0, .int .i64 0, .int .i64 0, .int .i64 0, .int .i64 0, .int .i64 0, .int .i64 0])
  obtain ⟨w1, hw1⟩ : ∃ w1, w.alloc (.cells #[.int .i64 0, .int .i64 0, .int .i64 0, .int .i64 0, .int .i64 0, .int .i64 0, .int .i64 0, .int .i64 0] 23) = w1 := ⟨_, rfl⟩
  rw [hw1] at B1 X1
  have r0 : w1.cell? ⟨w.heap.size, 0, none⟩ = some (.int .i64 0) := X1.out.cell 0
  have g0 := X1.out.frozen 0
  have r1 : w1.cell? ⟨w.heap.size, 1, none⟩ = some (.int .i64 0) := X1.out.cell 1
  have g1 := X1.out.frozen 1
  have r2 : w1.cell? ⟨w.heap.size, 2, none⟩ = some (.int .i64 0) := X1.out.cell 2
  have g2 := X1.out.frozen 2
  have r3 : w1.cell? ⟨w.heap.size, 3, none⟩ = some (.int .i64 0) := X1.out.cell 3
  have g3 := X1.out.frozen 3
  have r4 : w1.cell? ⟨w.heap.size, 4, none⟩ = some (.int .i64 0) := X1.out.cell 4
  have g4 := X1.out.frozen 4
  have r5 : w1.cell? ⟨w.heap.size, 5, none⟩ = some (.int .i64 0) := X1.out.cell 5
  have g5 := X1.out.frozen 5
  have r6 : w1.cell? ⟨w.heap.size, 6, none⟩ = some (.int .i64 0) := X1.out.cell 6
  have g6 := X1.out.frozen 6
  have r7 : w1.cell? ⟨w.heap.size, 7, none⟩ = some (.int .i64 0) := X1.out.cell 7
  have g7 := X1.out.frozen 7
  clear h hn h66 HE X1
  go_enter Try.func10, Try.ntmps10
  go_wp2
  refine bodyPost_ret (v := .tuple #[.agg #[.int .i64 0, .int .i64 0, .int .i64 0, .int .i64 0, .int .i64 0, .int .i64 0, .int .i64 0, .int .i64 0], .int .i64 2]) (by simp [results, Try.results10, go_sem, r0, r1, r2, r3, r4, r5, r6, r7]) rfl ⟨rfl, ?_⟩
  iterate 8 refine Below.setCell ?_ (show w.heap.size ≤ _ from Nat.le_refl _) _
  exact B1.out
set_option maxRecDepth 100000 in
set_option maxHeartbeats 8000000 in
theorem pdec_bad (p : Option Addr) (c : Nat) (l : List Nat) (w : World) (h : At w p 66 l) (hc : 66 ≤ c) (hg : Ck.goodB l = false) : Calls Try.prog 10 #[.slice p 66 c] w fun e w' => e = .returned (.tuple #[cval (dec l).1, .int .i64 (dec l).2]) ∧ Below w.heap.size w w' := by
  have HE : Hid (dec l = (ct0, 3)) := Lib.hid (by unfold dec; rw [if_pos h.1, if_neg (by rw [hg]; exact Bool.false_ne_true)])
  rw [HE.out]
  have B1 := Lib.hid (alloc_below w (.cells #[.int .i64 0, .int .i64 0, .int .i64 0, .int .i64 0, .int .i64 0, .int .i64 0, .int .i64 0, .int .i64 0] 23))
  have X1 := Lib.hid (Lies.new w 23 #[.int .i64 0, .int .i64 0, .int .i64 0, .int .i64 0, .int .i64 0, .int .i64 0, .int .i64 0, .int .i64 0])
  obtain ⟨w1, hw1⟩ : ∃ w1, w.alloc (.cells #[.int .i64 0, .int .i64 0, .int .i64 0, .int .i64 0, .int .i64 0, .int .i64 0, .int .i64 0, .int .i64 0] 23) = w1 := ⟨_, rfl⟩
  rw [hw1] at B1 X1
  have G := Lib.hid (Ck.open_no p 66 c l w1 (by decide) hc (h.keep B1.out) hg)
  have r0 : w1.cell? ⟨w.heap.size, 0, none⟩ = some (.int .i64 0) := X1.out.cell 0
  have g0 := X1.out.frozen 0
  have r1 : w1.cell? ⟨w.heap.size, 1, none⟩ = some (.int .i64 0) := X1.out.cell 1
  have g1 := X1.out.frozen 1
  have r2 : w1.cell? ⟨w.heap.size, 2, none⟩ = some (.int .i64 0) := X1.out.cell 2
  have g2 := X1.out.frozen 2
  have r3 : w1.cell? ⟨w.heap.size, 3, none⟩ = some (.int .i64 0) := X1.out.cell 3
  have g3 := X1.out.frozen 3
  have r4 : w1.cell? ⟨w.heap.size, 4, none⟩ = some (.int .i64 0) := X1.out.cell 4
  have g4 := X1.out.frozen 4
  have r5 : w1.cell? ⟨w.heap.size, 5, none⟩ = some (.int .i64 0) := X1.out.cell 5
  have g5 := X1.out.frozen 5
  have r6 : w1.cell? ⟨w.heap.size, 6, none⟩ = some (.int .i64 0) := X1.out.cell 6
  have g6 := X1.out.frozen 6
  have r7 : w1.cell? ⟨w.heap.size, 7, none⟩ = some (.int .i64 0) := X1.out.cell 7
  have g7 := X1.out.frozen 7
  clear h hc HE hg
  go_enter Try.func10, Try.ntmps10
  go_wp2_with fail
  refine G.out.mono ?_
  rintro e w2 ⟨rfl, m, hm⟩
  have hb : Below w1.heap.size w1 w2 := by
    rw [hm]
    exact below_drewN (Below.refl _ w1) m
  have B2 := Lib.hid (B1.out.trans (hb.mono B1.out.size))
  have X2 := Lib.hid (X1.out.below hb X1.out.lt)
  clear hw1 G hb hm r0 r1 r2 r3 r4 r5 r6 r7 g0 g1 g2 g3 g4 g5 g6 g7 B1 X1
  have r0 : w2.cell? ⟨w.heap.size, 0, none⟩ = some (.int .i64 0) := X2.out.cell 0
  have g0 := X2.out.frozen 0
  have r1 : w2.cell? ⟨w.heap.size, 1, none⟩ = some (.int .i64 0) := X2.out.cell 1
  have g1 := X2.out.frozen 1
  have r2 : w2.cell? ⟨w.heap.size, 2, none⟩ = some (.int .i64 0) := X2.out.cell 2
  have g2 := X2.out.frozen 2
  have r3 : w2.cell? ⟨w.heap.size, 3, none⟩ = some (.int .i64 0) := X2.out.cell 3
  have g3 := X2.out.frozen 3
  have r4 : w2.cell? ⟨w.heap.size, 4, none⟩ = some (.int .i64 0) := X2.out.cell 4
  have g4 := X2.out.frozen 4
  have r5 : w2.cell? ⟨w.heap.size, 5, none⟩ = some (.int .i64 0) := X2.out.cell 5
  have g5 := X2.out.frozen 5
  have r6 : w2.cell? ⟨w.heap.size, 6, none⟩ = some (.int .i64 0) := X2.out.cell 6
  have g6 := X2.out.frozen 6
  have r7 : w2.cell? ⟨w.heap.size, 7, none⟩ = some (.int .i64 0) := X2.out.cell 7
  have g7 := X2.out.frozen 7
  clear X2
  go_wp2
  refine bodyPost_ret (v := .tuple #[.agg #[.int .i64 0, .int .i64 0, .int .i64 0, .int .i64 0, .int .i64 0, .int .i64 0, .int .i64 0, .int .i64 0], .int .i64 3]) (by simp [results, Try.results10, go_sem, r0, r1, r2, r3, r4, r5, r6, r7]) rfl ⟨rfl, ?_⟩
  iterate 8 refine Below.setCell ?_ (show w.heap.size ≤ _ from Nat.le_refl _) _
  exact B2.out
set_option maxRecDepth 100000 in
set_option maxHeartbeats 8000000 in
theorem pdec_gfalse (p : Option Addr) (c : Nat) (l : List Nat) (w : World) (h : At w p 66 l) (hc : 66 ≤ c) (hg : Ck.goodB l = true) (hrb : rightB (said l) = false) : Calls Try.prog 10 #[.slice p 66 c] w fun e w' => e = .returned (.tuple #[cval (dec l).1, .int .i64 (dec l).2]) ∧ Below w.heap.size w w' := by
  have HE : Hid (dec l = (ct0, 2)) := Lib.hid (by unfold dec; rw [if_pos h.1, if_pos hg, if_neg (by rw [hrb]; exact Bool.false_ne_true)])
  rw [HE.out]
  have B1 := Lib.hid (alloc_below w (.cells #[.int .i64 0, .int .i64 0, .int .i64 0, .int .i64 0, .int .i64 0, .int .i64 0, .int .i64 0, .int .i64 0] 23))
  have X1 := Lib.hid (Lies.new w 23 #[.int .i64 0, .int .i64 0, .int .i64 0, .int .i64 0, .int .i64 0, .int .i64 0, .int .i64 0, .int .i64 0])
  obtain ⟨w1, hw1⟩ : ∃ w1, w.alloc (.cells #[.int .i64 0, .int .i64 0, .int .i64 0, .int .i64 0, .int .i64 0, .int .i64 0, .int .i64 0, .int .i64 0] 23) = w1 := ⟨_, rfl⟩
  rw [hw1] at B1 X1
  have G : Hid (Calls Try.prog 29 #[.slice p 66 c] w1 fun e w' => ∃ q d, e = .returned (.tuple #[.slice q 64 d, .bool true]) ∧ 64 ≤ d ∧ At w' q 64 (l.take 64) ∧ Below w1.heap.size w1 w') := Lib.hid (Ck.open_yes p 64 c l w1 (by decide) hc (h.keep B1.out) hg)
  have RT := Lib.hid (fun W => pright_any (said l) W)
  have RD := Lib.hid (fun q d W (hA : At W q 64 (l.take 64)) => pread_any q d (l.take 64) W hA)
  rw [said_take] at RD
  have r0 : w1.cell? ⟨w.heap.size, 0, none⟩ = some (.int .i64 0) := X1.out.cell 0
  have g0 := X1.out.frozen 0
  have r1 : w1.cell? ⟨w.heap.size, 1, none⟩ = some (.int .i64 0) := X1.out.cell 1
  have g1 := X1.out.frozen 1
  have r2 : w1.cell? ⟨w.heap.size, 2, none⟩ = some (.int .i64 0) := X1.out.cell 2
  have g2 := X1.out.frozen 2
  have r3 : w1.cell? ⟨w.heap.size, 3, none⟩ = some (.int .i64 0) := X1.out.cell 3
  have g3 := X1.out.frozen 3
  have r4 : w1.cell? ⟨w.heap.size, 4, none⟩ = some (.int .i64 0) := X1.out.cell 4
  have g4 := X1.out.frozen 4
  have r5 : w1.cell? ⟨w.heap.size, 5, none⟩ = some (.int .i64 0) := X1.out.cell 5
  have g5 := X1.out.frozen 5
  have r6 : w1.cell? ⟨w.heap.size, 6, none⟩ = some (.int .i64 0) := X1.out.cell 6
  have g6 := X1.out.frozen 6
  have r7 : w1.cell? ⟨w.heap.size, 7, none⟩ = some (.int .i64 0) := X1.out.cell 7
  have g7 := X1.out.frozen 7
  rw [hrb] at RT
  clear hrb
  unfold said at *
  generalize num l 0 = sa at *
  generalize num l 1 = sb at *
  generalize num l 2 = sc at *
  generalize num l 3 = sd at *
  generalize num l 4 = se at *
  generalize num l 5 = sf at *
  generalize num l 6 = sg at *
  generalize num l 7 = sh at *
  simp only [cval] at RT RD
  clear h hc HE hg
  go_enter Try.func10, Try.ntmps10
  go_wp2_with fail
  refine G.out.mono ?_
  rintro e w2 ⟨q, d, rfl, _, hA, hb⟩
  have A2 := Lib.hid hA
  have BG := Lib.hid hb
  clear hw1 G hb hA
  go_wp2_with fail
  refine (RD.out _ _ _ A2.out).mono ?_
  rintro e w3 ⟨rfl, hb⟩
  have BX := Lib.hid (B1.out.trans ((BG.out.trans (hb.mono BG.out.size)).mono B1.out.size))
  have X3 := Lib.hid (X1.out.below (BG.out.trans (hb.mono BG.out.size)) X1.out.lt)
  clear hb RD A2 BG
  have C2 := Lib.hid (Lies.new w3 23 #[.int .i64 sa, .int .i64 sb, .int .i64 sc, .int .i64 sd, .int .i64 se, .int .i64 sf, .int .i64 sg, .int .i64 sh])
  have B2 := Lib.hid (BX.out.alloc BX.out.size (.cells #[.int .i64 sa, .int .i64 sb, .int .i64 sc, .int .i64 sd, .int .i64 se, .int .i64 sf, .int .i64 sg, .int .i64 sh] 23))
  have Z2 := Lib.hid (X3.out.alloc (.cells #[.int .i64 sa, .int .i64 sb, .int .i64 sc, .int .i64 sd, .int .i64 se, .int .i64 sf, .int .i64 sg, .int .i64 sh] 23))
  clear r0 r1 r2 r3 r4 r5 r6 r7 g0 g1 g2 g3 g4 g5 g6 g7 B1 X1 BX X3
  have c0 : (w3.alloc (.cells #[.int .i64 sa, .int .i64 sb, .int .i64 sc, .int .i64 sd, .int .i64 se, .int .i64 sf, .int .i64 sg, .int .i64 sh] 23)).cell? ⟨w3.heap.size, 0, none⟩ = some (.int .i64 sa) := C2.out.cell 0
  have c1 : (w3.alloc (.cells #[.int .i64 sa, .int .i64 sb, .int .i64 sc, .int .i64 sd, .int .i64 se, .int .i64 sf, .int .i64 sg, .int .i64 sh] 23)).cell? ⟨w3.heap.size, 1, none⟩ = some (.int .i64 sb) := C2.out.cell 1
  have c2 : (w3.alloc (.cells #[.int .i64 sa, .int .i64 sb, .int .i64 sc, .int .i64 sd, .int .i64 se, .int .i64 sf, .int .i64 sg, .int .i64 sh] 23)).cell? ⟨w3.heap.size, 2, none⟩ = some (.int .i64 sc) := C2.out.cell 2
  have c3 : (w3.alloc (.cells #[.int .i64 sa, .int .i64 sb, .int .i64 sc, .int .i64 sd, .int .i64 se, .int .i64 sf, .int .i64 sg, .int .i64 sh] 23)).cell? ⟨w3.heap.size, 3, none⟩ = some (.int .i64 sd) := C2.out.cell 3
  have c4 : (w3.alloc (.cells #[.int .i64 sa, .int .i64 sb, .int .i64 sc, .int .i64 sd, .int .i64 se, .int .i64 sf, .int .i64 sg, .int .i64 sh] 23)).cell? ⟨w3.heap.size, 4, none⟩ = some (.int .i64 se) := C2.out.cell 4
  have c5 : (w3.alloc (.cells #[.int .i64 sa, .int .i64 sb, .int .i64 sc, .int .i64 sd, .int .i64 se, .int .i64 sf, .int .i64 sg, .int .i64 sh] 23)).cell? ⟨w3.heap.size, 5, none⟩ = some (.int .i64 sf) := C2.out.cell 5
  have c6 : (w3.alloc (.cells #[.int .i64 sa, .int .i64 sb, .int .i64 sc, .int .i64 sd, .int .i64 se, .int .i64 sf, .int .i64 sg, .int .i64 sh] 23)).cell? ⟨w3.heap.size, 6, none⟩ = some (.int .i64 sg) := C2.out.cell 6
  have c7 : (w3.alloc (.cells #[.int .i64 sa, .int .i64 sb, .int .i64 sc, .int .i64 sd, .int .i64 se, .int .i64 sf, .int .i64 sg, .int .i64 sh] 23)).cell? ⟨w3.heap.size, 7, none⟩ = some (.int .i64 sh) := C2.out.cell 7
  go_wp2_with fail
  refine (RT.out _).mono ?_
  rintro e w4 ⟨rfl, hb⟩
  have B3 := Lib.hid (B2.out.trans (hb.mono B2.out.size))
  have C3 := Lib.hid (C2.out.below hb C2.out.lt)
  have Z3 := Lib.hid (Z2.out.below hb Z2.out.lt)
  clear hb RT C2 Z2 B2 c0 c1 c2 c3 c4 c5 c6 c7
  have c0 : w4.cell? ⟨w3.heap.size, 0, none⟩ = some (.int .i64 sa) := C3.out.cell 0
  have c1 : w4.cell? ⟨w3.heap.size, 1, none⟩ = some (.int .i64 sb) := C3.out.cell 1
  have c2 : w4.cell? ⟨w3.heap.size, 2, none⟩ = some (.int .i64 sc) := C3.out.cell 2
  have c3 : w4.cell? ⟨w3.heap.size, 3, none⟩ = some (.int .i64 sd) := C3.out.cell 3
  have c4 : w4.cell? ⟨w3.heap.size, 4, none⟩ = some (.int .i64 se) := C3.out.cell 4
  have c5 : w4.cell? ⟨w3.heap.size, 5, none⟩ = some (.int .i64 sf) := C3.out.cell 5
  have c6 : w4.cell? ⟨w3.heap.size, 6, none⟩ = some (.int .i64 sg) := C3.out.cell 6
  have c7 : w4.cell? ⟨w3.heap.size, 7, none⟩ = some (.int .i64 sh) := C3.out.cell 7
  have r0 : w4.cell? ⟨w.heap.size, 0, none⟩ = some (.int .i64 0) := Z3.out.cell 0
  have g0 := Z3.out.frozen 0
  have r1 : w4.cell? ⟨w.heap.size, 1, none⟩ = some (.int .i64 0) := Z3.out.cell 1
  have g1 := Z3.out.frozen 1
  have r2 : w4.cell? ⟨w.heap.size, 2, none⟩ = some (.int .i64 0) := Z3.out.cell 2
  have g2 := Z3.out.frozen 2
  have r3 : w4.cell? ⟨w.heap.size, 3, none⟩ = some (.int .i64 0) := Z3.out.cell 3
  have g3 := Z3.out.frozen 3
  have r4 : w4.cell? ⟨w.heap.size, 4, none⟩ = some (.int .i64 0) := Z3.out.cell 4
  have g4 := Z3.out.frozen 4
  have r5 : w4.cell? ⟨w.heap.size, 5, none⟩ = some (.int .i64 0) := Z3.out.cell 5
  have g5 := Z3.out.frozen 5
  have r6 : w4.cell? ⟨w.heap.size, 6, none⟩ = some (.int .i64 0) := Z3.out.cell 6
  have g6 := Z3.out.frozen 6
  have r7 : w4.cell? ⟨w.heap.size, 7, none⟩ = some (.int .i64 0) := Z3.out.cell 7
  have g7 := Z3.out.frozen 7
  clear C3 Z3
  go_wp2
  refine bodyPost_ret (v := .tuple #[.agg #[.int .i64 0, .int .i64 0, .int .i64 0, .int .i64 0, .int .i64 0, .int .i64 0, .int .i64 0, .int .i64 0], .int .i64 2]) (by simp [results, Try.results10, go_sem, r0, r1, r2, r3, r4, r5, r6, r7]) rfl ⟨rfl, ?_⟩
  iterate 8 refine Below.setCell ?_ (show w.heap.size ≤ _ from Nat.le_refl _) _
  exact B3.out
set_option maxRecDepth 100000 in
set_option maxHeartbeats 8000000 in
theorem pdec_gtrue (p : Option Addr) (c : Nat) (l : List Nat) (w : World) (h : At w p 66 l) (hc : 66 ≤ c) (hg : Ck.goodB l = true) (hrb : rightB (said l) = true) : Calls Try.prog 10 #[.slice p 66 c] w fun e w' => e = .returned (.tuple #[cval (dec l).1, .int .i64 (dec l).2]) ∧ Below w.heap.size w w' := by
  have HE : Hid (dec l = (said l, 0)) := Lib.hid (by unfold dec; rw [if_pos h.1, if_pos hg, if_pos hrb])
  rw [HE.out]
  have B1 := Lib.hid (alloc_below w (.cells #[.int .i64 0, .int .i64 0, .int .i64 0, .int .i64 0, .int .i64 0, .int .i64 0, .int .i64 0, .int .i64 0] 23))
  have X1 := Lib.hid (Lies.new w 23 #[.int .i64 0, .int .i64 0, .int .i64 0, .int .i64 0, .int .i64 0, .int .i64 0, .int .i64 0, .int .i64 0])
  obtain ⟨w1, hw1⟩ : ∃ w1, w.alloc (.cells #[.int .i64 0, .int .i64 0, .int .i64 0, .int .i64 0, .int .i64 0, .int .i64 0, .int .i64 0, .int .i64 0] 23) = w1 := ⟨_, rfl⟩
  rw [hw1] at B1 X1
  have G : Hid (Calls Try.prog 29 #[.slice p 66 c] w1 fun e w' => ∃ q d, e = .returned (.tuple #[.slice q 64 d, .bool true]) ∧ 64 ≤ d ∧ At w' q 64 (l.take 64) ∧ Below w1.heap.size w1 w') := Lib.hid (Ck.open_yes p 64 c l w1 (by decide) hc (h.keep B1.out) hg)
  have RT := Lib.hid (fun W => pright_any (said l) W)
  have RD := Lib.hid (fun q d W (hA : At W q 64 (l.take 64)) => pread_any q d (l.take 64) W hA)
  rw [said_take] at RD
  have r0 : w1.cell? ⟨w.heap.size, 0, none⟩ = some (.int .i64 0) := X1.out.cell 0
  have g0 := X1.out.frozen 0
  have r1 : w1.cell? ⟨w.heap.size, 1, none⟩ = some (.int .i64 0) := X1.out.cell 1
  have g1 := X1.out.frozen 1
  have r2 : w1.cell? ⟨w.heap.size, 2, none⟩ = some (.int .i64 0) := X1.out.cell 2
  have g2 := X1.out.frozen 2
  have r3 : w1.cell? ⟨w.heap.size, 3, none⟩ = some (.int .i64 0) := X1.out.cell 3
  have g3 := X1.out.frozen 3
  have r4 : w1.cell? ⟨w.heap.size, 4, none⟩ = some (.int .i64 0) := X1.out.cell 4
  have g4 := X1.out.frozen 4
  have r5 : w1.cell? ⟨w.heap.size, 5, none⟩ = some (.int .i64 0) := X1.out.cell 5
  have g5 := X1.out.frozen 5
  have r6 : w1.cell? ⟨w.heap.size, 6, none⟩ = some (.int .i64 0) := X1.out.cell 6
  have g6 := X1.out.frozen 6
  have r7 : w1.cell? ⟨w.heap.size, 7, none⟩ = some (.int .i64 0) := X1.out.cell 7
  have g7 := X1.out.frozen 7
  rw [hrb] at RT
  clear hrb
  unfold said at *
  generalize num l 0 = sa at *
  generalize num l 1 = sb at *
  generalize num l 2 = sc at *
  generalize num l 3 = sd at *
  generalize num l 4 = se at *
  generalize num l 5 = sf at *
  generalize num l 6 = sg at *
  generalize num l 7 = sh at *
  simp only [cval] at RT RD
  clear h hc HE hg
  go_enter Try.func10, Try.ntmps10
  go_wp2_with fail
  refine G.out.mono ?_
  rintro e w2 ⟨q, d, rfl, _, hA, hb⟩
  have A2 := Lib.hid hA
  have BG := Lib.hid hb
  clear hw1 G hb hA
  go_wp2_with fail
  refine (RD.out _ _ _ A2.out).mono ?_
  rintro e w3 ⟨rfl, hb⟩
  have BX := Lib.hid (B1.out.trans ((BG.out.trans (hb.mono BG.out.size)).mono B1.out.size))
  have X3 := Lib.hid (X1.out.below (BG.out.trans (hb.mono BG.out.size)) X1.out.lt)
  clear hb RD A2 BG
  have C2 := Lib.hid (Lies.new w3 23 #[.int .i64 sa, .int .i64 sb, .int .i64 sc, .int .i64 sd, .int .i64 se, .int .i64 sf, .int .i64 sg, .int .i64 sh])
  have B2 := Lib.hid (BX.out.alloc BX.out.size (.cells #[.int .i64 sa, .int .i64 sb, .int .i64 sc, .int .i64 sd, .int .i64 se, .int .i64 sf, .int .i64 sg, .int .i64 sh] 23))
  have Z2 := Lib.hid (X3.out.alloc (.cells #[.int .i64 sa, .int .i64 sb, .int .i64 sc, .int .i64 sd, .int .i64 se, .int .i64 sf, .int .i64 sg, .int .i64 sh] 23))
  clear r0 r1 r2 r3 r4 r5 r6 r7 g0 g1 g2 g3 g4 g5 g6 g7 B1 X1 BX X3
  have c0 : (w3.alloc (.cells #[.int .i64 sa, .int .i64 sb, .int .i64 sc, .int .i64 sd, .int .i64 se, .int .i64 sf, .int .i64 sg, .int .i64 sh] 23)).cell? ⟨w3.heap.size, 0, none⟩ = some (.int .i64 sa) := C2.out.cell 0
  have c1 : (w3.alloc (.cells #[.int .i64 sa, .int .i64 sb, .int .i64 sc, .int .i64 sd, .int .i64 se, .int .i64 sf, .int .i64 sg, .int .i64 sh] 23)).cell? ⟨w3.heap.size, 1, none⟩ = some (.int .i64 sb) := C2.out.cell 1
  have c2 : (w3.alloc (.cells #[.int .i64 sa, .int .i64 sb, .int .i64 sc, .int .i64 sd, .int .i64 se, .int .i64 sf, .int .i64 sg, .int .i64 sh] 23)).cell? ⟨w3.heap.size, 2, none⟩ = some (.int .i64 sc) := C2.out.cell 2
  have c3 : (w3.alloc (.cells #[.int .i64 sa, .int .i64 sb, .int .i64 sc, .int .i64 sd, .int .i64 se, .int .i64 sf, .int .i64 sg, .int .i64 sh] 23)).cell? ⟨w3.heap.size, 3, none⟩ = some (.int .i64 sd) := C2.out.cell 3
  have c4 : (w3.alloc (.cells #[.int .i64 sa, .int .i64 sb, .int .i64 sc, .int .i64 sd, .int .i64 se, .int .i64 sf, .int .i64 sg, .int .i64 sh] 23)).cell? ⟨w3.heap.size, 4, none⟩ = some (.int .i64 se) := C2.out.cell 4
  have c5 : (w3.alloc (.cells #[.int .i64 sa, .int .i64 sb, .int .i64 sc, .int .i64 sd, .int .i64 se, .int .i64 sf, .int .i64 sg, .int .i64 sh] 23)).cell? ⟨w3.heap.size, 5, none⟩ = some (.int .i64 sf) := C2.out.cell 5
  have c6 : (w3.alloc (.cells #[.int .i64 sa, .int .i64 sb, .int .i64 sc, .int .i64 sd, .int .i64 se, .int .i64 sf, .int .i64 sg, .int .i64 sh] 23)).cell? ⟨w3.heap.size, 6, none⟩ = some (.int .i64 sg) := C2.out.cell 6
  have c7 : (w3.alloc (.cells #[.int .i64 sa, .int .i64 sb, .int .i64 sc, .int .i64 sd, .int .i64 se, .int .i64 sf, .int .i64 sg, .int .i64 sh] 23)).cell? ⟨w3.heap.size, 7, none⟩ = some (.int .i64 sh) := C2.out.cell 7
  go_wp2_with fail
  refine (RT.out _).mono ?_
  rintro e w4 ⟨rfl, hb⟩
  have B3 := Lib.hid (B2.out.trans (hb.mono B2.out.size))
  have C3 := Lib.hid (C2.out.below hb C2.out.lt)
  have Z3 := Lib.hid (Z2.out.below hb Z2.out.lt)
  clear hb RT C2 Z2 B2 c0 c1 c2 c3 c4 c5 c6 c7
  have c0 : w4.cell? ⟨w3.heap.size, 0, none⟩ = some (.int .i64 sa) := C3.out.cell 0
  have c1 : w4.cell? ⟨w3.heap.size, 1, none⟩ = some (.int .i64 sb) := C3.out.cell 1
  have c2 : w4.cell? ⟨w3.heap.size, 2, none⟩ = some (.int .i64 sc) := C3.out.cell 2
  have c3 : w4.cell? ⟨w3.heap.size, 3, none⟩ = some (.int .i64 sd) := C3.out.cell 3
  have c4 : w4.cell? ⟨w3.heap.size, 4, none⟩ = some (.int .i64 se) := C3.out.cell 4
  have c5 : w4.cell? ⟨w3.heap.size, 5, none⟩ = some (.int .i64 sf) := C3.out.cell 5
  have c6 : w4.cell? ⟨w3.heap.size, 6, none⟩ = some (.int .i64 sg) := C3.out.cell 6
  have c7 : w4.cell? ⟨w3.heap.size, 7, none⟩ = some (.int .i64 sh) := C3.out.cell 7
  have r0 : w4.cell? ⟨w.heap.size, 0, none⟩ = some (.int .i64 0) := Z3.out.cell 0
  have g0 := Z3.out.frozen 0
  have r1 : w4.cell? ⟨w.heap.size, 1, none⟩ = some (.int .i64 0) := Z3.out.cell 1
  have g1 := Z3.out.frozen 1
  have r2 : w4.cell? ⟨w.heap.size, 2, none⟩ = some (.int .i64 0) := Z3.out.cell 2
  have g2 := Z3.out.frozen 2
  have r3 : w4.cell? ⟨w.heap.size, 3, none⟩ = some (.int .i64 0) := Z3.out.cell 3
  have g3 := Z3.out.frozen 3
  have r4 : w4.cell? ⟨w.heap.size, 4, none⟩ = some (.int .i64 0) := Z3.out.cell 4
  have g4 := Z3.out.frozen 4
  have r5 : w4.cell? ⟨w.heap.size, 5, none⟩ = some (.int .i64 0) := Z3.out.cell 5
  have g5 := Z3.out.frozen 5
  have r6 : w4.cell? ⟨w.heap.size, 6, none⟩ = some (.int .i64 0) := Z3.out.cell 6
  have g6 := Z3.out.frozen 6
  have r7 : w4.cell? ⟨w.heap.size, 7, none⟩ = some (.int .i64 0) := Z3.out.cell 7
  have g7 := Z3.out.frozen 7
  clear C3 Z3
  go_wp2
  refine bodyPost_ret (v := .tuple #[.agg #[.int .i64 sa, .int .i64 sb, .int .i64 sc, .int .i64 sd, .int .i64 se, .int .i64 sf, .int .i64 sg, .int .i64 sh], .int .i64 0]) (by simp [results, Try.results10, go_sem, r0, r1, r2, r3, r4, r5, r6, r7]) rfl ⟨rfl, ?_⟩
  iterate 8 refine Below.setCell ?_ (show w.heap.size ≤ _ from Nat.le_refl _) _
  exact B3.out
theorem pdec_any (p : Option Addr) (n c : Nat) (l : List Nat) (w : World) (h : At w p n l) (hn : n ≤ 1000000) (hc : n ≤ c) : Calls Try.prog 10 #[.slice p n c] w fun e w' => e = .returned (.tuple #[cval (dec l).1, .int .i64 (dec l).2]) ∧ Below w.heap.size w w' := by
  by_cases h66 : n = 66
  · subst h66
    cases hg : Ck.goodB l with
    | false => exact pdec_bad p c l w h hc hg
    | true =>
      cases hrb : rightB (said l) with
      | false => exact pdec_gfalse p c l w h hc hg hrb
      | true => exact pdec_gtrue p c l w h hc hg hrb
  · exact pdec_len p n c l w h hn h66
end Ce
end Go.Proofs.Ytklhapekfgcplaa
