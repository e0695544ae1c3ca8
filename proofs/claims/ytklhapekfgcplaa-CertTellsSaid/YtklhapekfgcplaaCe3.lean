/- Walks over the document's answer of layer 17: a number of bytes, the certificate of bytes. No condition but those written. -/
import Derived.Test.YtklhapekfgcplaaCe2
namespace Go.Proofs.Ytklhapekfgcplaa
open Go.RowKit

namespace Ce
theorem value_at {w : World} {p : Option Addr} {c : Nat} {l : List Nat} (hA : At w p 8 l) : Calls Try.prog 43 #[.slice p 8 c] w fun e w' => e = .returned (.int .u64 ((Oc.val l : Nat) : Int)) ∧ w = w' := Ob.value_any p 8 c l w (by decide) hA
theorem at_part {w : World} {b o : Nat} {l : List Nat} (h : At w (some ⟨b, o, none⟩) 66 l) {i : Nat} (hi : i < 8) : At w (some ⟨b, o + 8 * i, none⟩) 8 ((l.drop (8 * i)).take 8) := by
  have h1 := (h.cut (k := 8 * i) (by omega)).take 8 (by omega)
  simp only [Option.map_some] at h1
  rwa [add_none] at h1
set_option maxRecDepth 100000 in
set_option maxHeartbeats 8000000 in
theorem rnumber_0 (b o c : Nat) (l : List Nat) (w : World) (h : At w (some ⟨b, o, none⟩) 66 l) (hc : 66 ≤ c) : Calls Try.prog 32 #[.slice (some ⟨b, o, none⟩) 66 c, .int .i64 0] w fun e w' => e = .returned (.int .i64 (num l 0)) ∧ w = w' := by
  have V := Lib.hid (fun cc => value_at (c := cc) (at_part h (i := 0) (by decide)))
  have hc3 : (66 : Int) ≤ (c : Int) := by omega
  have HN := Lib.hid (show num l 0 = IntKind.i64.wrap (Oc.val ((l.drop (8 * 0)).take 8) : Nat) from rfl)
  rw [HN.out]
  generalize Oc.val ((l.drop (8 * 0)).take 8) = v at *
  clear h HN
  go_enter Try.func32, Try.ntmps32
  go_wp2_with fail
  refine (V.out _).mono ?_
  rintro e w' ⟨rfl, rfl⟩
  go_wp2
  go_ret
  exact ⟨by rw [IntWalk.i64_left]; rfl, rfl⟩
set_option maxRecDepth 100000 in
set_option maxHeartbeats 8000000 in
theorem rnumber_1 (b o c : Nat) (l : List Nat) (w : World) (h : At w (some ⟨b, o, none⟩) 66 l) (hc : 66 ≤ c) : Calls Try.prog 32 #[.slice (some ⟨b, o, none⟩) 66 c, .int .i64 1] w fun e w' => e = .returned (.int .i64 (num l 1)) ∧ w = w' := by
  have V := Lib.hid (fun cc => value_at (c := cc) (at_part h (i := 1) (by decide)))
  have hc3 : (66 : Int) ≤ (c : Int) := by omega
  have HN := Lib.hid (show num l 1 = IntKind.i64.wrap (Oc.val ((l.drop (8 * 1)).take 8) : Nat) from rfl)
  rw [HN.out]
  generalize Oc.val ((l.drop (8 * 1)).take 8) = v at *
  clear h HN
  go_enter Try.func32, Try.ntmps32
  go_wp2_with fail
  refine (V.out _).mono ?_
  rintro e w' ⟨rfl, rfl⟩
  go_wp2
  go_ret
  exact ⟨by rw [IntWalk.i64_left]; rfl, rfl⟩
set_option maxRecDepth 100000 in
set_option maxHeartbeats 8000000 in
theorem rnumber_2 (b o c : Nat) (l : List Nat) (w : World) (h : At w (some ⟨b, o, none⟩) 66 l) (hc : 66 ≤ c) : Calls Try.prog 32 #[.slice (some ⟨b, o, none⟩) 66 c, .int .i64 2] w fun e w' => e = .returned (.int .i64 (num l 2)) ∧ w = w' := by
  have V := Lib.hid (fun cc => value_at (c := cc) (at_part h (i := 2) (by decide)))
  have hc3 : (66 : Int) ≤ (c : Int) := by omega
  have HN := Lib.hid (show num l 2 = IntKind.i64.wrap (Oc.val ((l.drop (8 * 2)).take 8) : Nat) from rfl)
  rw [HN.out]
  generalize Oc.val ((l.drop (8 * 2)).take 8) = v at *
  clear h HN
  go_enter Try.func32, Try.ntmps32
  go_wp2_with fail
  refine (V.out _).mono ?_
  rintro e w' ⟨rfl, rfl⟩
  go_wp2
  go_ret
  exact ⟨by rw [IntWalk.i64_left]; rfl, rfl⟩
set_option maxRecDepth 100000 in
set_option maxHeartbeats 8000000 in
theorem rnumber_3 (b o c : Nat) (l : List Nat) (w : World) (h : At w (some ⟨b, o, none⟩) 66 l) (hc : 66 ≤ c) : Calls Try.prog 32 #[.slice (some ⟨b, o, none⟩) 66 c, .int .i64 3] w fun e w' => e = .returned (.int .i64 (num l 3)) ∧ w = w' := by
  have V := Lib.hid (fun cc => value_at (c := cc) (at_part h (i := 3) (by decide)))
  have hc3 : (66 : Int) ≤ (c : Int) := by omega
  have HN := Lib.hid (show num l 3 = IntKind.i64.wrap (Oc.val ((l.drop (8 * 3)).take 8) : Nat) from rfl)
  rw [HN.out]
  generalize Oc.val ((l.drop (8 * 3)).take 8) = v at *
  clear h HN
  go_enter Try.func32, Try.ntmps32
  go_wp2_with fail
  refine (V.out _).mono ?_
  rintro e w' ⟨rfl, rfl⟩
  go_wp2
  go_ret
  exact ⟨by rw [IntWalk.i64_left]; rfl, rfl⟩
set_option maxRecDepth 100000 in
set_option maxHeartbeats 8000000 in
theorem rnumber_4 (b o c : Nat) (l : List Nat) (w : World) (h : At w (some ⟨b, o, none⟩) 66 l) (hc : 66 ≤ c) : Calls Try.prog 32 #[.slice (some ⟨b, o, none⟩) 66 c, .int .i64 4] w fun e w' => e = .returned (.int .i64 (num l 4)) ∧ w = w' := by
  have V := Lib.hid (fun cc => value_at (c := cc) (at_part h (i := 4) (by decide)))
  have hc3 : (66 : Int) ≤ (c : Int) := by omega
  have HN := Lib.hid (show num l 4 = IntKind.i64.wrap (Oc.val ((l.drop (8 * 4)).take 8) : Nat) from rfl)
  rw [HN.out]
  generalize Oc.val ((l.drop (8 * 4)).take 8) = v at *
  clear h HN
  go_enter Try.func32, Try.ntmps32
  go_wp2_with fail
  refine (V.out _).mono ?_
  rintro e w' ⟨rfl, rfl⟩
  go_wp2
  go_ret
  exact ⟨by rw [IntWalk.i64_left]; rfl, rfl⟩
set_option maxRecDepth 100000 in
set_option maxHeartbeats 8000000 in
theorem rnumber_5 (b o c : Nat) (l : List Nat) (w : World) (h : At w (some ⟨b, o, none⟩) 66 l) (hc : 66 ≤ c) : Calls Try.prog 32 #[.slice (some ⟨b, o, none⟩) 66 c, .int .i64 5] w fun e w' => e = .returned (.int .i64 (num l 5)) ∧ w = w' := by
  have V := Lib.hid (fun cc => value_at (c := cc) (at_part h (i := 5) (by decide)))
  have hc3 : (66 : Int) ≤ (c : Int) := by omega
  have HN := Lib.hid (show num l 5 = IntKind.i64.wrap (Oc.val ((l.drop (8 * 5)).take 8) : Nat) from rfl)
  rw [HN.out]
  generalize Oc.val ((l.drop (8 * 5)).take 8) = v at *
  clear h HN
  go_enter Try.func32, Try.ntmps32
  go_wp2_with fail
  refine (V.out _).mono ?_
  rintro e w' ⟨rfl, rfl⟩
  go_wp2
  go_ret
  exact ⟨by rw [IntWalk.i64_left]; rfl, rfl⟩
set_option maxRecDepth 100000 in
set_option maxHeartbeats 8000000 in
theorem rnumber_6 (b o c : Nat) (l : List Nat) (w : World) (h : At w (some ⟨b, o, none⟩) 66 l) (hc : 66 ≤ c) : Calls Try.prog 32 #[.slice (some ⟨b, o, none⟩) 66 c, .int .i64 6] w fun e w' => e = .returned (.int .i64 (num l 6)) ∧ w = w' := by
  have V := Lib.hid (fun cc => value_at (c := cc) (at_part h (i := 6) (by decide)))
  have hc3 : (66 : Int) ≤ (c : Int) := by omega
  have HN := Lib.hid (show num l 6 = IntKind.i64.wrap (Oc.val ((l.drop (8 * 6)).take 8) : Nat) from rfl)
  rw [HN.out]
  generalize Oc.val ((l.drop (8 * 6)).take 8) = v at *
  clear h HN
  go_enter Try.func32, Try.ntmps32
  go_wp2_with fail
  refine (V.out _).mono ?_
  rintro e w' ⟨rfl, rfl⟩
  go_wp2
  go_ret
  exact ⟨by rw [IntWalk.i64_left]; rfl, rfl⟩
set_option maxRecDepth 100000 in
set_option maxHeartbeats 8000000 in
theorem rnumber_7 (b o c : Nat) (l : List Nat) (w : World) (h : At w (some ⟨b, o, none⟩) 66 l) (hc : 66 ≤ c) : Calls Try.prog 32 #[.slice (some ⟨b, o, none⟩) 66 c, .int .i64 7] w fun e w' => e = .returned (.int .i64 (num l 7)) ∧ w = w' := by
  have V := Lib.hid (fun cc => value_at (c := cc) (at_part h (i := 7) (by decide)))
  have hc3 : (66 : Int) ≤ (c : Int) := by omega
  have HN := Lib.hid (show num l 7 = IntKind.i64.wrap (Oc.val ((l.drop (8 * 7)).take 8) : Nat) from rfl)
  rw [HN.out]
  generalize Oc.val ((l.drop (8 * 7)).take 8) = v at *
  clear h HN
  go_enter Try.func32, Try.ntmps32
  go_wp2_with fail
  refine (V.out _).mono ?_
  rintro e w' ⟨rfl, rfl⟩
  go_wp2
  go_ret
  exact ⟨by rw [IntWalk.i64_left]; rfl, rfl⟩
set_option maxRecDepth 100000 in
set_option maxHeartbeats 8000000 in
theorem r17dec_len (p : Option Addr) (n c : Nat) (l : List Nat) (w : World) (h : At w p n l) (hn : n ≤ 1000000) (h66 : ¬ n = 66) : Calls Try.prog 11 #[.slice p n c] w fun e w' => e = .returned (.tuple #[cval (dec l).1, .int .i64 (dec l).2]) ∧ Below w.heap.size w w' := by
  have HE : Hid (dec l = (ct0, 2)) := Lib.hid (by unfold dec; rw [if_neg (by rw [h.1]; exact h66)])
  rw [HE.out]
  have t0 : (((n : Nat) : Int) != 66) = true := by simp; omega
  have t1 : ((n : Nat) : Int) ≤ 1000000 := by omega
  have B1 := Lib.hid (alloc_below w (.cells #[.int .i64 0, .int .i64 0, .int .i64 0, .int .i64 0, .int .i64 0, .int .i64 0, .int .i64 0, .int .i64 0] 23))
  have X1 := Lib.hid (Lies.new w 23 #[.int .i64 0, .int .i64 0, .int .i64 0, .int .i64 0, .int .i64 0, .int .i64 0, .int .i64 0, .int .i64 0])
  have H := Lib.hid (h.keep B1.out)
  obtain ⟨w1, hw1⟩ : ∃ w1, w.alloc (.cells #[.int .i64 0, .int .i64 0, .int .i64 0, .int .i64 0, .int .i64 0, .int .i64 0, .int .i64 0, .int .i64 0] 23) = w1 := ⟨_, rfl⟩
  rw [hw1] at B1 X1 H
  have r0 : w1.cell? ⟨w.heap.size, 0, none⟩ = some (.int .i64 0) := X1.out.cell 0
  have g0 := X1.out.frozen 0
  have r1 : w1.cell? ⟨w.heap.size, 1, none⟩ = some (.int .i64 0) := X1.out.cell 1
  have g1 := X1.out.frozen 1
  have r2 : w1.cell? ⟨w.heap.size, 2, none⟩ = some (.int .i64 0) := X1.out.cell 2
  have g2 := X1.out.frozen 2
  have r3 : w1.cell? ⟨w.heap.size, 3, none⟩ = some (.int .i64 0) := X1.out.cell 3
  have g3 := X1.out.frozen 3
  have r4 : w1.cell? ⟨w.heap.size, 4, none⟩ = some (.int .i64 0) := X1.out.cell 4
  have g4 := X1.out.frozen 4
  have r5 : w1.cell? ⟨w.heap.size, 5, none⟩ = some (.int .i64 0) := X1.out.cell 5
  have g5 := X1.out.frozen 5
  have r6 : w1.cell? ⟨w.heap.size, 6, none⟩ = some (.int .i64 0) := X1.out.cell 6
  have g6 := X1.out.frozen 6
  have r7 : w1.cell? ⟨w.heap.size, 7, none⟩ = some (.int .i64 0) := X1.out.cell 7
  have g7 := X1.out.frozen 7
  clear h hn h66 H HE
  go_enter Try.func11, Try.ntmps11
  go_wp2
  refine bodyPost_ret (v := .tuple #[.agg #[.int .i64 0, .int .i64 0, .int .i64 0, .int .i64 0, .int .i64 0, .int .i64 0, .int .i64 0, .int .i64 0], .int .i64 2]) (by simp [results, Try.results11, go_sem, r0, r1, r2, r3, r4, r5, r6, r7]) rfl ⟨rfl, ?_⟩
  iterate 8 refine Below.setCell ?_ (show w.heap.size ≤ _ from Nat.le_refl _) _
  exact B1.out
set_option maxRecDepth 100000 in
set_option maxHeartbeats 8000000 in
theorem r17dec_bad (p : Option Addr) (c : Nat) (l : List Nat) (w : World) (h : At w p 66 l) (hc : 66 ≤ c) (hg : Ck.goodB l = false) : Calls Try.prog 11 #[.slice p 66 c] w fun e w' => e = .returned (.tuple #[cval (dec l).1, .int .i64 (dec l).2]) ∧ Below w.heap.size w w' := by
  have HE : Hid (dec l = (ct0, 3)) := Lib.hid (by unfold dec; rw [if_pos h.1, if_neg (by rw [hg]; exact Bool.false_ne_true)])
  rw [HE.out]
  have B1 := Lib.hid (alloc_below w (.cells #[.int .i64 0, .int .i64 0, .int .i64 0, .int .i64 0, .int .i64 0, .int .i64 0, .int .i64 0, .int .i64 0] 23))
  have X1 := Lib.hid (Lies.new w 23 #[.int .i64 0, .int .i64 0, .int .i64 0, .int .i64 0, .int .i64 0, .int .i64 0, .int .i64 0, .int .i64 0])
  have H := Lib.hid (h.keep B1.out)
  obtain ⟨w1, hw1⟩ : ∃ w1, w.alloc (.cells #[.int .i64 0, .int .i64 0, .int .i64 0, .int .i64 0, .int .i64 0, .int .i64 0, .int .i64 0, .int .i64 0] 23) = w1 := ⟨_, rfl⟩
  rw [hw1] at B1 X1 H
  have G := Lib.hid (Ck.rgood_at p 66 c l false w1 hg (by decide) hc H.out)
  have r0 : w1.cell? ⟨w.heap.size, 0, none⟩ = some (.int .i64 0) := X1.out.cell 0
  have g0 := X1.out.frozen 0
  have r1 : w1.cell? ⟨w.heap.size, 1, none⟩ = some (.int .i64 0) := X1.out.cell 1
  have g1 := X1.out.frozen 1
  have r2 : w1.cell? ⟨w.heap.size, 2, none⟩ = some (.int .i64 0) := X1.out.cell 2
  have g2 := X1.out.frozen 2
  have r3 : w1.cell? ⟨w.heap.size, 3, none⟩ = some (.int .i64 0) := X1.out.cell 3
  have g3 := X1.out.frozen 3
  have r4 : w1.cell? ⟨w.heap.size, 4, none⟩ = some (.int .i64 0) := X1.out.cell 4
  have g4 := X1.out.frozen 4
  have r5 : w1.cell? ⟨w.heap.size, 5, none⟩ = some (.int .i64 0) := X1.out.cell 5
  have g5 := X1.out.frozen 5
  have r6 : w1.cell? ⟨w.heap.size, 6, none⟩ = some (.int .i64 0) := X1.out.cell 6
  have g6 := X1.out.frozen 6
  have r7 : w1.cell? ⟨w.heap.size, 7, none⟩ = some (.int .i64 0) := X1.out.cell 7
  have g7 := X1.out.frozen 7
  clear h hc H HE hg
  go_enter Try.func11, Try.ntmps11
  go_wp2_with fail
  refine G.out.mono ?_
  rintro e w2 ⟨rfl, hb⟩
  have B2 := Lib.hid (B1.out.trans (hb.mono B1.out.size))
  have X2 := Lib.hid (X1.out.below hb X1.out.lt)
  clear hw1 G hb r0 r1 r2 r3 r4 r5 r6 r7 g0 g1 g2 g3 g4 g5 g6 g7 B1 X1
  have r0 : w2.cell? ⟨w.heap.size, 0, none⟩ = some (.int .i64 0) := X2.out.cell 0
  have g0 := X2.out.frozen 0
  have r1 : w2.cell? ⟨w.heap.size, 1, none⟩ = some (.int .i64 0) := X2.out.cell 1
  have g1 := X2.out.frozen 1
  have r2 : w2.cell? ⟨w.heap.size, 2, none⟩ = some (.int .i64 0) := X2.out.cell 2
  have g2 := X2.out.frozen 2
  have r3 : w2.cell? ⟨w.heap.size, 3, none⟩ = some (.int .i64 0) := X2.out.cell 3
  have g3 := X2.out.frozen 3
  have r4 : w2.cell? ⟨w.heap.size, 4, none⟩ = some (.int .i64 0) := X2.out.cell 4
  have g4 := X2.out.frozen 4
  have r5 : w2.cell? ⟨w.heap.size, 5, none⟩ = some (.int .i64 0) := X2.out.cell 5
  have g5 := X2.out.frozen 5
  have r6 : w2.cell? ⟨w.heap.size, 6, none⟩ = some (.int .i64 0) := X2.out.cell 6
  have g6 := X2.out.frozen 6
  have r7 : w2.cell? ⟨w.heap.size, 7, none⟩ = some (.int .i64 0) := X2.out.cell 7
  have g7 := X2.out.frozen 7
  clear X2
  go_wp2
  refine bodyPost_ret (v := .tuple #[.agg #[.int .i64 0, .int .i64 0, .int .i64 0, .int .i64 0, .int .i64 0, .int .i64 0, .int .i64 0, .int .i64 0], .int .i64 3]) (by simp [results, Try.results11, go_sem, r0, r1, r2, r3, r4, r5, r6, r7]) rfl ⟨rfl, ?_⟩
  iterate 8 refine Below.setCell ?_ (show w.heap.size ≤ _ from Nat.le_refl _) _
  exact B2.out
set_option maxRecDepth 100000 in
set_option maxHeartbeats 8000000 in
theorem r17dec_gfalse (b o c : Nat) (l : List Nat) (w : World) (h : At w (some ⟨b, o, none⟩) 66 l) (hc : 66 ≤ c) (hg : Ck.goodB l = true) (hrb : rightB (said l) = false) : Calls Try.prog 11 #[.slice (some ⟨b, o, none⟩) 66 c] w fun e w' => e = .returned (.tuple #[cval (dec l).1, .int .i64 (dec l).2]) ∧ Below w.heap.size w w' := by
  have HE : Hid (dec l = (ct0, 2)) := Lib.hid (by unfold dec; rw [if_pos h.1, if_pos hg, if_neg (by rw [hrb]; exact Bool.false_ne_true)])
  rw [HE.out]
  have B1 := Lib.hid (alloc_below w (.cells #[.int .i64 0, .int .i64 0, .int .i64 0, .int .i64 0, .int .i64 0, .int .i64 0, .int .i64 0, .int .i64 0] 23))
  have X1 := Lib.hid (Lies.new w 23 #[.int .i64 0, .int .i64 0, .int .i64 0, .int .i64 0, .int .i64 0, .int .i64 0, .int .i64 0, .int .i64 0])
  have H := Lib.hid (h.keep B1.out)
  obtain ⟨w1, hw1⟩ : ∃ w1, w.alloc (.cells #[.int .i64 0, .int .i64 0, .int .i64 0, .int .i64 0, .int .i64 0, .int .i64 0, .int .i64 0, .int .i64 0] 23) = w1 := ⟨_, rfl⟩
  rw [hw1] at B1 X1 H
  have G := Lib.hid (Ck.rgood_at (some ⟨b, o, none⟩) 66 c l true w1 hg (by decide) hc H.out)
  have RT := Lib.hid (fun W => r17right_any (said l) W)
  have M0 := Lib.hid (fun W (hW : Below w1.heap.size w1 W) => rnumber_0 b o c l W (H.out.keep hW) hc)
  have M1 := Lib.hid (fun W (hW : Below w1.heap.size w1 W) => rnumber_1 b o c l W (H.out.keep hW) hc)
  have M2 := Lib.hid (fun W (hW : Below w1.heap.size w1 W) => rnumber_2 b o c l W (H.out.keep hW) hc)
  have M3 := Lib.hid (fun W (hW : Below w1.heap.size w1 W) => rnumber_3 b o c l W (H.out.keep hW) hc)
  have M4 := Lib.hid (fun W (hW : Below w1.heap.size w1 W) => rnumber_4 b o c l W (H.out.keep hW) hc)
  have M5 := Lib.hid (fun W (hW : Below w1.heap.size w1 W) => rnumber_5 b o c l W (H.out.keep hW) hc)
  have M6 := Lib.hid (fun W (hW : Below w1.heap.size w1 W) => rnumber_6 b o c l W (H.out.keep hW) hc)
  have M7 := Lib.hid (fun W (hW : Below w1.heap.size w1 W) => rnumber_7 b o c l W (H.out.keep hW) hc)
  have r0 : w1.cell? ⟨w.heap.size, 0, none⟩ = some (.int .i64 0) := X1.out.cell 0
  have g0 := X1.out.frozen 0
  have r1 : w1.cell? ⟨w.heap.size, 1, none⟩ = some (.int .i64 0) := X1.out.cell 1
  have g1 := X1.out.frozen 1
  have r2 : w1.cell? ⟨w.heap.size, 2, none⟩ = some (.int .i64 0) := X1.out.cell 2
  have g2 := X1.out.frozen 2
  have r3 : w1.cell? ⟨w.heap.size, 3, none⟩ = some (.int .i64 0) := X1.out.cell 3
  have g3 := X1.out.frozen 3
  have r4 : w1.cell? ⟨w.heap.size, 4, none⟩ = some (.int .i64 0) := X1.out.cell 4
  have g4 := X1.out.frozen 4
  have r5 : w1.cell? ⟨w.heap.size, 5, none⟩ = some (.int .i64 0) := X1.out.cell 5
  have g5 := X1.out.frozen 5
  have r6 : w1.cell? ⟨w.heap.size, 6, none⟩ = some (.int .i64 0) := X1.out.cell 6
  have g6 := X1.out.frozen 6
  have r7 : w1.cell? ⟨w.heap.size, 7, none⟩ = some (.int .i64 0) := X1.out.cell 7
  have g7 := X1.out.frozen 7
  rw [hrb] at RT
  clear hrb
  unfold said at *
  generalize num l 0 = sa at *
  generalize num l 1 = sb at *
  generalize num l 2 = sc at *
  generalize num l 3 = sd at *
  generalize num l 4 = se at *
  generalize num l 5 = sf at *
  generalize num l 6 = sg at *
  generalize num l 7 = sh at *
  simp only [cval] at RT
  clear h hc H HE hg
  go_enter Try.func11, Try.ntmps11
  go_wp2_with fail
  refine G.out.mono ?_
  rintro e w2 ⟨rfl, hb⟩
  have BG := Lib.hid hb
  clear hw1 G hb
  go_wp2_with fail
  refine (M0.out _ BG.out).mono ?_
  rintro e w' ⟨rfl, rfl⟩
  clear M0
  go_wp2_with fail
  refine (M1.out _ BG.out).mono ?_
  rintro e w' ⟨rfl, rfl⟩
  clear M1
  go_wp2_with fail
  refine (M2.out _ BG.out).mono ?_
  rintro e w' ⟨rfl, rfl⟩
  clear M2
  go_wp2_with fail
  refine (M3.out _ BG.out).mono ?_
  rintro e w' ⟨rfl, rfl⟩
  clear M3
  go_wp2_with fail
  refine (M4.out _ BG.out).mono ?_
  rintro e w' ⟨rfl, rfl⟩
  clear M4
  go_wp2_with fail
  refine (M5.out _ BG.out).mono ?_
  rintro e w' ⟨rfl, rfl⟩
  clear M5
  go_wp2_with fail
  refine (M6.out _ BG.out).mono ?_
  rintro e w' ⟨rfl, rfl⟩
  clear M6
  go_wp2_with fail
  refine (M7.out _ BG.out).mono ?_
  rintro e w' ⟨rfl, rfl⟩
  clear M7
  have C2 := Lib.hid (Lies.new w2 23 #[.int .i64 sa, .int .i64 sb, .int .i64 sc, .int .i64 sd, .int .i64 se, .int .i64 sf, .int .i64 sg, .int .i64 sh])
  have BX := Lib.hid (B1.out.trans (BG.out.mono B1.out.size))
  have B2 := Lib.hid (BX.out.alloc BX.out.size (.cells #[.int .i64 sa, .int .i64 sb, .int .i64 sc, .int .i64 sd, .int .i64 se, .int .i64 sf, .int .i64 sg, .int .i64 sh] 23))
  have Z2 := Lib.hid ((X1.out.below BG.out X1.out.lt).alloc (.cells #[.int .i64 sa, .int .i64 sb, .int .i64 sc, .int .i64 sd, .int .i64 se, .int .i64 sf, .int .i64 sg, .int .i64 sh] 23))
  clear r0 r1 r2 r3 r4 r5 r6 r7 g0 g1 g2 g3 g4 g5 g6 g7 B1 X1 BX BG
  have c0 : (w2.alloc (.cells #[.int .i64 sa, .int .i64 sb, .int .i64 sc, .int .i64 sd, .int .i64 se, .int .i64 sf, .int .i64 sg, .int .i64 sh] 23)).cell? ⟨w2.heap.size, 0, none⟩ = some (.int .i64 sa) := C2.out.cell 0
  have c1 : (w2.alloc (.cells #[.int .i64 sa, .int .i64 sb, .int .i64 sc, .int .i64 sd, .int .i64 se, .int .i64 sf, .int .i64 sg, .int .i64 sh] 23)).cell? ⟨w2.heap.size, 1, none⟩ = some (.int .i64 sb) := C2.out.cell 1
  have c2 : (w2.alloc (.cells #[.int .i64 sa, .int .i64 sb, .int .i64 sc, .int .i64 sd, .int .i64 se, .int .i64 sf, .int .i64 sg, .int .i64 sh] 23)).cell? ⟨w2.heap.size, 2, none⟩ = some (.int .i64 sc) := C2.out.cell 2
  have c3 : (w2.alloc (.cells #[.int .i64 sa, .int .i64 sb, .int .i64 sc, .int .i64 sd, .int .i64 se, .int .i64 sf, .int .i64 sg, .int .i64 sh] 23)).cell? ⟨w2.heap.size, 3, none⟩ = some (.int .i64 sd) := C2.out.cell 3
  have c4 : (w2.alloc (.cells #[.int .i64 sa, .int .i64 sb, .int .i64 sc, .int .i64 sd, .int .i64 se, .int .i64 sf, .int .i64 sg, .int .i64 sh] 23)).cell? ⟨w2.heap.size, 4, none⟩ = some (.int .i64 se) := C2.out.cell 4
  have c5 : (w2.alloc (.cells #[.int .i64 sa, .int .i64 sb, .int .i64 sc, .int .i64 sd, .int .i64 se, .int .i64 sf, .int .i64 sg, .int .i64 sh] 23)).cell? ⟨w2.heap.size, 5, none⟩ = some (.int .i64 sf) := C2.out.cell 5
  have c6 : (w2.alloc (.cells #[.int .i64 sa, .int .i64 sb, .int .i64 sc, .int .i64 sd, .int .i64 se, .int .i64 sf, .int .i64 sg, .int .i64 sh] 23)).cell? ⟨w2.heap.size, 6, none⟩ = some (.int .i64 sg) := C2.out.cell 6
  have c7 : (w2.alloc (.cells #[.int .i64 sa, .int .i64 sb, .int .i64 sc, .int .i64 sd, .int .i64 se, .int .i64 sf, .int .i64 sg, .int .i64 sh] 23)).cell? ⟨w2.heap.size, 7, none⟩ = some (.int .i64 sh) := C2.out.cell 7
  go_wp2_with fail
  refine (RT.out _).mono ?_
  rintro e w3 ⟨rfl, hb⟩
  have B3 := Lib.hid (B2.out.trans (hb.mono B2.out.size))
  have C3 := Lib.hid (C2.out.below hb C2.out.lt)
  have Z3 := Lib.hid (Z2.out.below hb Z2.out.lt)
  clear hb RT C2 Z2 B2 c0 c1 c2 c3 c4 c5 c6 c7
  have c0 : w3.cell? ⟨w2.heap.size, 0, none⟩ = some (.int .i64 sa) := C3.out.cell 0
  have c1 : w3.cell? ⟨w2.heap.size, 1, none⟩ = some (.int .i64 sb) := C3.out.cell 1
  have c2 : w3.cell? ⟨w2.heap.size, 2, none⟩ = some (.int .i64 sc) := C3.out.cell 2
  have c3 : w3.cell? ⟨w2.heap.size, 3, none⟩ = some (.int .i64 sd) := C3.out.cell 3
  have c4 : w3.cell? ⟨w2.heap.size, 4, none⟩ = some (.int .i64 se) := C3.out.cell 4
  have c5 : w3.cell? ⟨w2.heap.size, 5, none⟩ = some (.int .i64 sf) := C3.out.cell 5
  have c6 : w3.cell? ⟨w2.heap.size, 6, none⟩ = some (.int .i64 sg) := C3.out.cell 6
  have c7 : w3.cell? ⟨w2.heap.size, 7, none⟩ = some (.int .i64 sh) := C3.out.cell 7
  have r0 : w3.cell? ⟨w.heap.size, 0, none⟩ = some (.int .i64 0) := Z3.out.cell 0
  have g0 := Z3.out.frozen 0
  have r1 : w3.cell? ⟨w.heap.size, 1, none⟩ = some (.int .i64 0) := Z3.out.cell 1
  have g1 := Z3.out.frozen 1
  have r2 : w3.cell? ⟨w.heap.size, 2, none⟩ = some (.int .i64 0) := Z3.out.cell 2
  have g2 := Z3.out.frozen 2
  have r3 : w3.cell? ⟨w.heap.size, 3, none⟩ = some (.int .i64 0) := Z3.out.cell 3
  have g3 := Z3.out.frozen 3
  have r4 : w3.cell? ⟨w.heap.size, 4, none⟩ = some (.int .i64 0) := Z3.out.cell 4
  have g4 := Z3.out.frozen 4
  have r5 : w3.cell? ⟨w.heap.size, 5, none⟩ = some (.int .i64 0) := Z3.out.cell 5
  have g5 := Z3.out.frozen 5
  have r6 : w3.cell? ⟨w.heap.size, 6, none⟩ = some (.int .i64 0) := Z3.out.cell 6
  have g6 := Z3.out.frozen 6
  have r7 : w3.cell? ⟨w.heap.size, 7, none⟩ = some (.int .i64 0) := Z3.out.cell 7
  have g7 := Z3.out.frozen 7
  clear C3 Z3
  go_wp2
  refine bodyPost_ret (v := .tuple #[.agg #[.int .i64 0, .int .i64 0, .int .i64 0, .int .i64 0, .int .i64 0, .int .i64 0, .int .i64 0, .int .i64 0], .int .i64 2]) (by simp [results, Try.results11, go_sem, r0, r1, r2, r3, r4, r5, r6, r7]) rfl ⟨rfl, ?_⟩
  iterate 8 refine Below.setCell ?_ (show w.heap.size ≤ _ from Nat.le_refl _) _
  exact B3.out
set_option maxRecDepth 100000 in
set_option maxHeartbeats 8000000 in
theorem r17dec_gtrue (b o c : Nat) (l : List Nat) (w : World) (h : At w (some ⟨b, o, none⟩) 66 l) (hc : 66 ≤ c) (hg : Ck.goodB l = true) (hrb : rightB (said l) = true) : Calls Try.prog 11 #[.slice (some ⟨b, o, none⟩) 66 c] w fun e w' => e = .returned (.tuple #[cval (dec l).1, .int .i64 (dec l).2]) ∧ Below w.heap.size w w' := by
  have HE : Hid (dec l = (said l, 0)) := Lib.hid (by unfold dec; rw [if_pos h.1, if_pos hg, if_pos hrb])
  rw [HE.out]
  have B1 := Lib.hid (alloc_below w (.cells #[.int .i64 0, .int .i64 0, .int .i64 0, .int .i64 0, .int .i64 0, .int .i64 0, .int .i64 0, .int .i64 0] 23))
  have X1 := Lib.hid (Lies.new w 23 #[.int .i64 0, .int .i64 0, .int .i64 0, .int .i64 0, .int .i64 0, .int .i64 0, .int .i64 0, .int .i64 0])
  have H := Lib.hid (h.keep B1.out)
  obtain ⟨w1, hw1⟩ : ∃ w1, w.alloc (.cells #[.int .i64 0, .int .i64 0, .int .i64 0, .int .i64 0, .int .i64 0, .int .i64 0, .int .i64 0, .int .i64 0] 23) = w1 := ⟨_, rfl⟩
  rw [hw1] at B1 X1 H
  have G := Lib.hid (Ck.rgood_at (some ⟨b, o, none⟩) 66 c l true w1 hg (by decide) hc H.out)
  have RT := Lib.hid (fun W => r17right_any (said l) W)
  have M0 := Lib.hid (fun W (hW : Below w1.heap.size w1 W) => rnumber_0 b o c l W (H.out.keep hW) hc)
  have M1 := Lib.hid (fun W (hW : Below w1.heap.size w1 W) => rnumber_1 b o c l W (H.out.keep hW) hc)
  have M2 := Lib.hid (fun W (hW : Below w1.heap.size w1 W) => rnumber_2 b o c l W (H.out.keep hW) hc)
  have M3 := Lib.hid (fun W (hW : Below w1.heap.size w1 W) => rnumber_3 b o c l W (H.out.keep hW) hc)
  have M4 := Lib.hid (fun W (hW : Below w1.heap.size w1 W) => rnumber_4 b o c l W (H.out.keep hW) hc)
  have M5 := Lib.hid (fun W (hW : Below w1.heap.size w1 W) => rnumber_5 b o c l W (H.out.keep hW) hc)
  have M6 := Lib.hid (fun W (hW : Below w1.heap.size w1 W) => rnumber_6 b o c l W (H.out.keep hW) hc)
  have M7 := Lib.hid (fun W (hW : Below w1.heap.size w1 W) => rnumber_7 b o c l W (H.out.keep hW) hc)
  have r0 : w1.cell? ⟨w.heap.size, 0, none⟩ = some (.int .i64 0) := X1.out.cell 0
  have g0 := X1.out.frozen 0
  have r1 : w1.cell? ⟨w.heap.size, 1, none⟩ = some (.int .i64 0) := X1.out.cell 1
  have g1 := X1.out.frozen 1
  have r2 : w1.cell? ⟨w.heap.size, 2, none⟩ = some (.int .i64 0) := X1.out.cell 2
  have g2 := X1.out.frozen 2
  have r3 : w1.cell? ⟨w.heap.size, 3, none⟩ = some (.int .i64 0) := X1.out.cell 3
  have g3 := X1.out.frozen 3
  have r4 : w1.cell? ⟨w.heap.size, 4, none⟩ = some (.int .i64 0) := X1.out.cell 4
  have g4 := X1.out.frozen 4
  have r5 : w1.cell? ⟨w.heap.size, 5, none⟩ = some (.int .i64 0) := X1.out.cell 5
  have g5 := X1.out.frozen 5
  have r6 : w1.cell? ⟨w.heap.size, 6, none⟩ = some (.int .i64 0) := X1.out.cell 6
  have g6 := X1.out.frozen 6
  have r7 : w1.cell? ⟨w.heap.size, 7, none⟩ = some (.int .i64 0) := X1.out.cell 7
  have g7 := X1.out.frozen 7
  rw [hrb] at RT
  clear hrb
  unfold said at *
  generalize num l 0 = sa at *
  generalize num l 1 = sb at *
  generalize num l 2 = sc at *
  generalize num l 3 = sd at *
  generalize num l 4 = se at *
  generalize num l 5 = sf at *
  generalize num l 6 = sg at *
  generalize num l 7 = sh at *
  simp only [cval] at RT
  clear h hc H HE hg
  go_enter Try.func11, Try.ntmps11
  go_wp2_with fail
  refine G.out.mono ?_
  rintro e w2 ⟨rfl, hb⟩
  have BG := Lib.hid hb
  clear hw1 G hb
  go_wp2_with fail
  refine (M0.out _ BG.out).mono ?_
  rintro e w' ⟨rfl, rfl⟩
  clear M0
  go_wp2_with fail
  refine (M1.out _ BG.out).mono ?_
  rintro e w' ⟨rfl, rfl⟩
  clear M1
  go_wp2_with fail
  refine (M2.out _ BG.out).mono ?_
  rintro e w' ⟨rfl, rfl⟩
  clear M2
  go_wp2_with fail
  refine (M3.out _ BG.out).mono ?_
  rintro e w' ⟨rfl, rfl⟩
  clear M3
  go_wp2_with fail
  refine (M4.out _ BG.out).mono ?_
  rintro e w' ⟨rfl, rfl⟩
  clear M4
  go_wp2_with fail
  refine (M5.out _ BG.out).mono ?_
  rintro e w' ⟨rfl, rfl⟩
  clear M5
  go_wp2_with fail
  refine (M6.out _ BG.out).mono ?_
  rintro e w' ⟨rfl, rfl⟩
  clear M6
  go_wp2_with fail
  refine (M7.out _ BG.out).mono ?_
  rintro e w' ⟨rfl, rfl⟩
  clear M7
  have C2 := Lib.hid (Lies.new w2 23 #[.int .i64 sa, .int .i64 sb, .int .i64 sc, .int .i64 sd, .int .i64 se, .int .i64 sf, .int .i64 sg, .int .i64 sh])
  have BX := Lib.hid (B1.out.trans (BG.out.mono B1.out.size))
  have B2 := Lib.hid (BX.out.alloc BX.out.size (.cells #[.int .i64 sa, .int .i64 sb, .int .i64 sc, .int .i64 sd, .int .i64 se, .int .i64 sf, .int .i64 sg, .int .i64 sh] 23))
  have Z2 := Lib.hid ((X1.out.below BG.out X1.out.lt).alloc (.cells #[.int .i64 sa, .int .i64 sb, .int .i64 sc, .int .i64 sd, .int .i64 se, .int .i64 sf, .int .i64 sg, .int .i64 sh] 23))
  clear r0 r1 r2 r3 r4 r5 r6 r7 g0 g1 g2 g3 g4 g5 g6 g7 B1 X1 BX BG
  have c0 : (w2.alloc (.cells #[.int .i64 sa, .int .i64 sb, .int .i64 sc, .int .i64 sd, .int .i64 se, .int .i64 sf, .int .i64 sg, .int .i64 sh] 23)).cell? ⟨w2.heap.size, 0, none⟩ = some (.int .i64 sa) := C2.out.cell 0
  have c1 : (w2.alloc (.cells #[.int .i64 sa, .int .i64 sb, .int .i64 sc, .int .i64 sd, .int .i64 se, .int .i64 sf, .int .i64 sg, .int .i64 sh] 23)).cell? ⟨w2.heap.size, 1, none⟩ = some (.int .i64 sb) := C2.out.cell 1
  have c2 : (w2.alloc (.cells #[.int .i64 sa, .int .i64 sb, .int .i64 sc, .int .i64 sd, .int .i64 se, .int .i64 sf, .int .i64 sg, .int .i64 sh] 23)).cell? ⟨w2.heap.size, 2, none⟩ = some (.int .i64 sc) := C2.out.cell 2
  have c3 : (w2.alloc (.cells #[.int .i64 sa, .int .i64 sb, .int .i64 sc, .int .i64 sd, .int .i64 se, .int .i64 sf, .int .i64 sg, .int .i64 sh] 23)).cell? ⟨w2.heap.size, 3, none⟩ = some (.int .i64 sd) := C2.out.cell 3
  have c4 : (w2.alloc (.cells #[.int .i64 sa, .int .i64 sb, .int .i64 sc, .int .i64 sd, .int .i64 se, .int .i64 sf, .int .i64 sg, .int .i64 sh] 23)).cell? ⟨w2.heap.size, 4, none⟩ = some (.int .i64 se) := C2.out.cell 4
  have c5 : (w2.alloc (.cells #[.int .i64 sa, .int .i64 sb, .int .i64 sc, .int .i64 sd, .int .i64 se, .int .i64 sf, .int .i64 sg, .int .i64 sh] 23)).cell? ⟨w2.heap.size, 5, none⟩ = some (.int .i64 sf) := C2.out.cell 5
  have c6 : (w2.alloc (.cells #[.int .i64 sa, .int .i64 sb, .int .i64 sc, .int .i64 sd, .int .i64 se, .int .i64 sf, .int .i64 sg, .int .i64 sh] 23)).cell? ⟨w2.heap.size, 6, none⟩ = some (.int .i64 sg) := C2.out.cell 6
  have c7 : (w2.alloc (.cells #[.int .i64 sa, .int .i64 sb, .int .i64 sc, .int .i64 sd, .int .i64 se, .int .i64 sf, .int .i64 sg, .int .i64 sh] 23)).cell? ⟨w2.heap.size, 7, none⟩ = some (.int .i64 sh) := C2.out.cell 7
  go_wp2_with fail
  refine (RT.out _).mono ?_
  rintro e w3 ⟨rfl, hb⟩
  have B3 := Lib.hid (B2.out.trans (hb.mono B2.out.size))
  have C3 := Lib.hid (C2.out.below hb C2.out.lt)
  have Z3 := Lib.hid (Z2.out.below hb Z2.out.lt)
  clear hb RT C2 Z2 B2 c0 c1 c2 c3 c4 c5 c6 c7
  have c0 : w3.cell? ⟨w2.heap.size, 0, none⟩ = some (.int .i64 sa) := C3.out.cell 0
  have c1 : w3.cell? ⟨w2.heap.size, 1, none⟩ = some (.int .i64 sb) := C3.out.cell 1
  have c2 : w3.cell? ⟨w2.heap.size, 2, none⟩ = some (.int .i64 sc) := C3.out.cell 2
  have c3 : w3.cell? ⟨w2.heap.size, 3, none⟩ = some (.int .i64 sd) := C3.out.cell 3
  have c4 : w3.cell? ⟨w2.heap.size, 4, none⟩ = some (.int .i64 se) := C3.out.cell 4
  have c5 : w3.cell? ⟨w2.heap.size, 5, none⟩ = some (.int .i64 sf) := C3.out.cell 5
  have c6 : w3.cell? ⟨w2.heap.size, 6, none⟩ = some (.int .i64 sg) := C3.out.cell 6
  have c7 : w3.cell? ⟨w2.heap.size, 7, none⟩ = some (.int .i64 sh) := C3.out.cell 7
  have r0 : w3.cell? ⟨w.heap.size, 0, none⟩ = some (.int .i64 0) := Z3.out.cell 0
  have g0 := Z3.out.frozen 0
  have r1 : w3.cell? ⟨w.heap.size, 1, none⟩ = some (.int .i64 0) := Z3.out.cell 1
  have g1 := Z3.out.frozen 1
  have r2 : w3.cell? ⟨w.heap.size, 2, none⟩ = some (.int .i64 0) := Z3.out.cell 2
  have g2 := Z3.out.frozen 2
  have r3 : w3.cell? ⟨w.heap.size, 3, none⟩ = some (.int .i64 0) := Z3.out.cell 3
  have g3 := Z3.out.frozen 3
  have r4 : w3.cell? ⟨w.heap.size, 4, none⟩ = some (.int .i64 0) := Z3.out.cell 4
  have g4 := Z3.out.frozen 4
  have r5 : w3.cell? ⟨w.heap.size, 5, none⟩ = some (.int .i64 0) := Z3.out.cell 5
  have g5 := Z3.out.frozen 5
  have r6 : w3.cell? ⟨w.heap.size, 6, none⟩ = some (.int .i64 0) := Z3.out.cell 6
  have g6 := Z3.out.frozen 6
  have r7 : w3.cell? ⟨w.heap.size, 7, none⟩ = some (.int .i64 0) := Z3.out.cell 7
  have g7 := Z3.out.frozen 7
  clear C3 Z3
  go_wp2
  refine bodyPost_ret (v := .tuple #[.agg #[.int .i64 sa, .int .i64 sb, .int .i64 sc, .int .i64 sd, .int .i64 se, .int .i64 sf, .int .i64 sg, .int .i64 sh], .int .i64 0]) (by simp [results, Try.results11, go_sem, r0, r1, r2, r3, r4, r5, r6, r7]) rfl ⟨rfl, ?_⟩
  iterate 8 refine Below.setCell ?_ (show w.heap.size ≤ _ from Nat.le_refl _) _
  exact B3.out
theorem r17dec_any (p : Option Addr) (n c : Nat) (l : List Nat) (w : World) (h : At w p n l) (hn : n ≤ 1000000) (hc : n ≤ c) : Calls Try.prog 11 #[.slice p n c] w fun e w' => e = .returned (.tuple #[cval (dec l).1, .int .i64 (dec l).2]) ∧ Below w.heap.size w w' := by
  by_cases h66 : n = 66
  · subst h66
    cases hg : Ck.goodB l with
    | false => exact r17dec_bad p c l w h hc hg
    | true =>
      obtain ⟨b, o, e, _⟩ := h.2.2 (by decide)
      subst e
      cases hrb : rightB (said l) with
      | false => exact r17dec_gfalse b o c l w h hc hg hrb
      | true => exact r17dec_gtrue b o c l w h hc hg hrb
  · exact r17dec_len p n c l w h hn h66
end Ce
end Go.Proofs.Ytklhapekfgcplaa
