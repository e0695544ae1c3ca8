/- The walk over the law that holds package cert against the document's answer. Conditions: the contracts of package cert; the list's cells hold bytes. -/
import Derived.Test.YtklhapekfgcplaaCeL1
import Derived.Test.YtklhapekfgcplaaSame
import Derived.Test.YtklhapekfgcplaaCe2
import Derived.Test.YtklhapekfgcplaaCe3
namespace Go.Proofs.Ytklhapekfgcplaa
open Go.RowKit

namespace Ce
/-- A certificate's bytes, or none, and the error. -/
def encL (c : Ct) : List Nat := if rightB c = true then Ck.tight (raw c) else []
def encE (c : Ct) : Int := if rightB c = true then 0 else 1
theorem encL_len (c : Ct) : (encL c).length ≤ 66 := by
  unfold encL
  split
  · rw [Ck.tight_length, raw_length]
    decide
  · simp
theorem encL_yes {c : Ct} (h : rightB c = true) : encL c = Ck.tight (raw c) ∧ (encL c).length = 66 := by
  unfold encL
  rw [if_pos h]
  exact ⟨rfl, by rw [Ck.tight_length, raw_length]⟩
def EncEnd (w : World) (c : Ct) (e : Ending) (w' : World) : Prop := (∃ q d, e = .returned (.tuple #[.slice q (encL c).length d, .int .i64 (encE c)]) ∧ (encL c).length ≤ d ∧ At w' q (encL c).length (encL c)) ∧ Below w.heap.size w w'
theorem tight_own {w : World} {B cap : Nat} {q : Option Addr} {c : Ct} (h : w.ownsRow B 5 1 (.slice q 66 cap) 66 (bys (Ck.tight (raw c)))) : 66 ≤ cap ∧ At w q 66 (Ck.tight (raw c)) := by
  obtain ⟨q', c', e', hc, hA⟩ := at_own (by rw [Ck.tight_length, raw_length]) (Ck.tight_lt (raw_lt c)) h
  cases e'
  exact ⟨hc, hA⟩
theorem cenc_all (I : Face) (c : Ct) (w : World) : Calls Try.prog 8 #[cval c] w (EncEnd w c) := by
  unfold EncEnd
  cases h : rightB c with
  | true =>
    refine (I.enc_yes c w h).mono fun e w' he => ?_
    obtain ⟨q, d, he, ho, hb⟩ := he
    obtain ⟨h1, h2⟩ := encL_yes h
    refine ⟨⟨q, d, ?_, ?_, ?_⟩, hb⟩
    · rw [h2, he]
      unfold encE
      rw [if_pos h]
    · rw [h2]
      exact (tight_own ho).1
    · rw [h2, h1]
      exact (tight_own ho).2
  | false =>
    refine (I.enc_no c w h).mono fun e w' he => ?_
    obtain ⟨⟨q, d, he⟩, hb⟩ := he
    have h1 : encL c = [] := by unfold encL; rw [h]; rfl
    refine ⟨⟨q, d, ?_, ?_, ?_⟩, hb⟩
    · rw [h1, he]
      unfold encE
      rw [h]
      rfl
    · rw [h1]
      exact Nat.zero_le _
    · rw [h1]
      exact At.none_left rfl
theorem r17enc_all (c : Ct) (w : World) : Calls Try.prog 9 #[cval c] w (EncEnd w c) := by
  unfold EncEnd
  cases h : rightB c with
  | true =>
    refine (r17enc_yes c w h).mono fun e w' he => ?_
    obtain ⟨q, d, he, hd, hA, hb⟩ := he
    obtain ⟨h1, h2⟩ := encL_yes h
    refine ⟨⟨q, d, ?_, ?_, ?_⟩, hb⟩
    · rw [h2, he]
      unfold encE
      rw [if_pos h]
    · rw [h2]
      exact hd
    · rw [h2, h1]
      exact hA
  | false =>
    refine (r17enc_no c w h).mono fun e w' he => ?_
    obtain ⟨he, hb⟩ := he
    have h1 : encL c = [] := by unfold encL; rw [h]; rfl
    refine ⟨⟨none, 0, ?_, ?_, ?_⟩, hb⟩
    · rw [h1, he]
      unfold encE
      rw [h]
      rfl
    · rw [h1]
      exact Nat.zero_le _
    · rw [h1]
      exact At.none_left rfl
set_option maxRecDepth 100000 in
set_option maxHeartbeats 8000000 in
theorem ctells_long (I : Face) (c : Ct) (p : Option Addr) (n cp : Nat) (w : World) (hn : 200 < n) (hbig : n ≤ 9223372036854775807) :
    Calls Try.prog 3 #[cval c, .slice p n cp] w fun e w' => e = .returned (.bool true) ∧ Below w.heap.size w w' := by
  have AL := Lib.hid (fun W => calive_any I W)
  have t0 : decide (((n : Nat) : Int) > 200) = true := by simp; omega
  have hb2 : ((n : Nat) : Int) ≤ 9223372036854775807 := by omega
  obtain ⟨a, b, c, d, e, f, g, h⟩ := c
  simp only [cval]
  clear hn hbig
  have B_0 := Lib.hid (Below.refl w.heap.size w)
  have B_1 := Lib.hid (B_0.out.alloc B_0.out.size (.cells #[.int .i64 a, .int .i64 b, .int .i64 c, .int .i64 d, .int .i64 e, .int .i64 f, .int .i64 g, .int .i64 h] 23))
  clear B_0
  go_enter Try.func3, Try.ntmps3
  go_wp2_with fail
  refine (AL.out _).mono ?_
  rintro e w2 ⟨rfl, hb⟩
  have B_2 := Lib.hid (B_1.out.trans (hb.mono B_1.out.size))
  clear B_1
  clear hb 
  go_wp2
  go_ret
  exact ⟨rfl, B_2.out⟩
set_option maxRecDepth 100000 in
set_option maxHeartbeats 16000000 in
theorem ctells_short (I : Face) (c : Ct) (p : Option Addr) (n cp : Nat) (b : List Nat) (w : World) (hn : n ≤ 200) (hnc : n ≤ cp) (hA : At w p n b) :
    Calls Try.prog 3 #[cval c, .slice p n cp] w fun e w' => e = .returned (.bool true) ∧ Below w.heap.size w w' := by
  have AL := Lib.hid (fun W => calive_any I W)
  have t0 : decide (((n : Nat) : Int) > 200) = false := by simp; omega
  have hn' : ((n : Nat) : Int) ≤ 200 := by omega
  have K1 := Lib.hid (fun W => r17right_any c W)
  have K2 := Lib.hid (fun W => cenc_all I c W)
  have K3 := Lib.hid (fun W => r17enc_all c W)
  have K6 := Lib.hid (fun W (hW : Below w.heap.size w W) => I.dec p n cp b W (hA.keep hW) (by omega) hnc)
  have K7 := Lib.hid (fun W (hW : Below w.heap.size w W) => r17dec_any p n cp b W (hA.keep hW) (by omega) hnc)
  have K8 := Lib.hid (fun q q2 d d2 W hA hA2 => same_one q q2 (encL c).length d d2 (encL c) W (Nat.le_trans (encL_len c) (by decide)) hA hA2)
  have K9 := Lib.hid (fun W => I.right c W)
  have K10 := Lib.hid (fun (hr : rightB c = true) q d W hA hd => show Calls Try.prog 10 #[.slice q (encL c).length d] W fun e w' => e = .returned (.tuple #[cval c, .int .i64 0]) ∧ Below W.heap.size W w' from by
    have h1 := I.dec q (encL c).length d (encL c) W hA (Nat.le_trans (encL_len c) (by decide)) hd
    rw [(encL_yes hr).1, dec_tight hr, ← (encL_yes hr).1] at h1
    exact h1)
  have K11 := Lib.hid (fun W (h : (dec b).2 = 0) => show Calls Try.prog 8 #[cval (dec b).1] W fun e w' => (∃ q d, e = .returned (.tuple #[.slice q n d, .int .i64 0]) ∧ At w' q n b) ∧ Below W.heap.size W w' from by
    have h1 := dec_back hA.2.1 h
    have h66 : n = 66 := by
      have h3 := congrArg List.length h1.2
      rw [Ck.tight_length, raw_length, hA.1] at h3
      exact h3.symm
    refine (I.enc_yes (dec b).1 W h1.1).mono fun e w' he => ?_
    obtain ⟨q, d, he, ho, hb⟩ := he
    have h2 := (tight_own ho).2
    rw [h1.2] at h2
    subst h66
    exact ⟨⟨q, d, he, h2⟩, hb⟩)
  have K12 := Lib.hid (fun q d W (hW : Below w.heap.size w W) hA2 => same_one q p n d cp b W (by omega) hA2 (hA.keep hW))
  clear hn hnc hA
  unfold EncEnd at K2 K3
  generalize dec b = r at *
  obtain ⟨⟨xa, xb, xc, xd, xe, xf, xg, xh⟩, k⟩ := r
  generalize rightB c = u at *
  generalize encL c = L at *
  generalize encE c = E at *
  obtain ⟨a, b', c, d, e, f, g, h⟩ := c
  simp only [cval] at *
  have qE : (E != E) = false := by simp
  have qk : (k != k) = false := by simp
  have B_0 := Lib.hid (Below.refl w.heap.size w)
  have B_1 := Lib.hid (B_0.out.alloc B_0.out.size (.cells #[.int .i64 a, .int .i64 b', .int .i64 c, .int .i64 d, .int .i64 e, .int .i64 f, .int .i64 g, .int .i64 h] 23))
  clear B_0
  have C_1 := Lib.hid (Lies.new w 23 #[.int .i64 a, .int .i64 b', .int .i64 c, .int .i64 d, .int .i64 e, .int .i64 f, .int .i64 g, .int .i64 h])
  have c0_1 : (w.alloc (.cells #[.int .i64 a, .int .i64 b', .int .i64 c, .int .i64 d, .int .i64 e, .int .i64 f, .int .i64 g, .int .i64 h] 23)).cell? ⟨w.heap.size, 0, none⟩ = some (.int .i64 a) := C_1.out.cell 0
  have c1_1 : (w.alloc (.cells #[.int .i64 a, .int .i64 b', .int .i64 c, .int .i64 d, .int .i64 e, .int .i64 f, .int .i64 g, .int .i64 h] 23)).cell? ⟨w.heap.size, 1, none⟩ = some (.int .i64 b') := C_1.out.cell 1
  have c2_1 : (w.alloc (.cells #[.int .i64 a, .int .i64 b', .int .i64 c, .int .i64 d, .int .i64 e, .int .i64 f, .int .i64 g, .int .i64 h] 23)).cell? ⟨w.heap.size, 2, none⟩ = some (.int .i64 c) := C_1.out.cell 2
  have c3_1 : (w.alloc (.cells #[.int .i64 a, .int .i64 b', .int .i64 c, .int .i64 d, .int .i64 e, .int .i64 f, .int .i64 g, .int .i64 h] 23)).cell? ⟨w.heap.size, 3, none⟩ = some (.int .i64 d) := C_1.out.cell 3
  have c4_1 : (w.alloc (.cells #[.int .i64 a, .int .i64 b', .int .i64 c, .int .i64 d, .int .i64 e, .int .i64 f, .int .i64 g, .int .i64 h] 23)).cell? ⟨w.heap.size, 4, none⟩ = some (.int .i64 e) := C_1.out.cell 4
  have c5_1 : (w.alloc (.cells #[.int .i64 a, .int .i64 b', .int .i64 c, .int .i64 d, .int .i64 e, .int .i64 f, .int .i64 g, .int .i64 h] 23)).cell? ⟨w.heap.size, 5, none⟩ = some (.int .i64 f) := C_1.out.cell 5
  have c6_1 : (w.alloc (.cells #[.int .i64 a, .int .i64 b', .int .i64 c, .int .i64 d, .int .i64 e, .int .i64 f, .int .i64 g, .int .i64 h] 23)).cell? ⟨w.heap.size, 6, none⟩ = some (.int .i64 g) := C_1.out.cell 6
  have c7_1 : (w.alloc (.cells #[.int .i64 a, .int .i64 b', .int .i64 c, .int .i64 d, .int .i64 e, .int .i64 f, .int .i64 g, .int .i64 h] 23)).cell? ⟨w.heap.size, 7, none⟩ = some (.int .i64 h) := C_1.out.cell 7
  go_enter Try.func3, Try.ntmps3
  go_wp2_with fail
  refine (K1.out _).mono ?_
  rintro e w2 ⟨rfl, hb⟩
  clear c0_1 c1_1 c2_1 c3_1 c4_1 c5_1 c6_1 c7_1
  have B_2 := Lib.hid (B_1.out.trans (hb.mono B_1.out.size))
  have C_2 := Lib.hid (C_1.out.below hb C_1.out.lt)
  clear B_1 C_1
  clear hb 
  have c0_2 : w2.cell? ⟨w.heap.size, 0, none⟩ = some (.int .i64 a) := C_2.out.cell 0
  have c1_2 : w2.cell? ⟨w.heap.size, 1, none⟩ = some (.int .i64 b') := C_2.out.cell 1
  have c2_2 : w2.cell? ⟨w.heap.size, 2, none⟩ = some (.int .i64 c) := C_2.out.cell 2
  have c3_2 : w2.cell? ⟨w.heap.size, 3, none⟩ = some (.int .i64 d) := C_2.out.cell 3
  have c4_2 : w2.cell? ⟨w.heap.size, 4, none⟩ = some (.int .i64 e) := C_2.out.cell 4
  have c5_2 : w2.cell? ⟨w.heap.size, 5, none⟩ = some (.int .i64 f) := C_2.out.cell 5
  have c6_2 : w2.cell? ⟨w.heap.size, 6, none⟩ = some (.int .i64 g) := C_2.out.cell 6
  have c7_2 : w2.cell? ⟨w.heap.size, 7, none⟩ = some (.int .i64 h) := C_2.out.cell 7
  go_wp2_with fail
  refine (K2.out _).mono ?_
  rintro e w3 ⟨⟨q1, d1, rfl, hd1, hA1⟩, hb⟩
  clear c0_2 c1_2 c2_2 c3_2 c4_2 c5_2 c6_2 c7_2
  have B_3 := Lib.hid (B_2.out.trans (hb.mono B_2.out.size))
  have C_3 := Lib.hid (C_2.out.below hb C_2.out.lt)
  clear B_2 C_2
  clear hb 
  have P_3 := Lib.hid (hA1)
  clear hA1
  have c0_3 : w3.cell? ⟨w.heap.size, 0, none⟩ = some (.int .i64 a) := C_3.out.cell 0
  have c1_3 : w3.cell? ⟨w.heap.size, 1, none⟩ = some (.int .i64 b') := C_3.out.cell 1
  have c2_3 : w3.cell? ⟨w.heap.size, 2, none⟩ = some (.int .i64 c) := C_3.out.cell 2
  have c3_3 : w3.cell? ⟨w.heap.size, 3, none⟩ = some (.int .i64 d) := C_3.out.cell 3
  have c4_3 : w3.cell? ⟨w.heap.size, 4, none⟩ = some (.int .i64 e) := C_3.out.cell 4
  have c5_3 : w3.cell? ⟨w.heap.size, 5, none⟩ = some (.int .i64 f) := C_3.out.cell 5
  have c6_3 : w3.cell? ⟨w.heap.size, 6, none⟩ = some (.int .i64 g) := C_3.out.cell 6
  have c7_3 : w3.cell? ⟨w.heap.size, 7, none⟩ = some (.int .i64 h) := C_3.out.cell 7
  go_wp2_with fail
  refine (K3.out _).mono ?_
  rintro e w4 ⟨⟨q2, d2, rfl, hd2, hA2⟩, hb⟩
  clear c0_3 c1_3 c2_3 c3_3 c4_3 c5_3 c6_3 c7_3
  have B_4 := Lib.hid (B_3.out.trans (hb.mono B_3.out.size))
  have C_4 := Lib.hid (C_3.out.below hb C_3.out.lt)
  have P_4 := Lib.hid (P_3.out.keep hb)
  clear B_3 C_3 P_3
  clear hb hd2
  have Q_4 := Lib.hid (hA2)
  clear hA2
  go_wp2_with fail
  refine (K6.out _ B_4.out).mono ?_
  rintro e w5 ⟨rfl, hb⟩
  have B_5 := Lib.hid (B_4.out.trans (hb.mono B_4.out.size))
  have C_5 := Lib.hid (C_4.out.below hb C_4.out.lt)
  have P_5 := Lib.hid (P_4.out.keep hb)
  have Q_5 := Lib.hid (Q_4.out.keep hb)
  clear B_4 C_4 P_4 Q_4
  clear hb 
  have B_6 := Lib.hid (B_5.out.alloc B_5.out.size (.cells #[.int .i64 xa, .int .i64 xb, .int .i64 xc, .int .i64 xd, .int .i64 xe, .int .i64 xf, .int .i64 xg, .int .i64 xh] 23))
  have C_6 := Lib.hid (C_5.out.alloc (.cells #[.int .i64 xa, .int .i64 xb, .int .i64 xc, .int .i64 xd, .int .i64 xe, .int .i64 xf, .int .i64 xg, .int .i64 xh] 23))
  have P_6 := Lib.hid (P_5.out.keep (alloc_below w5 (.cells #[.int .i64 xa, .int .i64 xb, .int .i64 xc, .int .i64 xd, .int .i64 xe, .int .i64 xf, .int .i64 xg, .int .i64 xh] 23)))
  have Q_6 := Lib.hid (Q_5.out.keep (alloc_below w5 (.cells #[.int .i64 xa, .int .i64 xb, .int .i64 xc, .int .i64 xd, .int .i64 xe, .int .i64 xf, .int .i64 xg, .int .i64 xh] 23)))
  clear B_5 C_5 P_5 Q_5
  have D_6 := Lib.hid (Lies.new w5 23 #[.int .i64 xa, .int .i64 xb, .int .i64 xc, .int .i64 xd, .int .i64 xe, .int .i64 xf, .int .i64 xg, .int .i64 xh])
  go_wp2_with fail
  refine (K7.out _ B_6.out).mono ?_
  rintro e w7 ⟨rfl, hb⟩
  have B_7 := Lib.hid (B_6.out.trans (hb.mono B_6.out.size))
  have C_7 := Lib.hid (C_6.out.below hb C_6.out.lt)
  have P_7 := Lib.hid (P_6.out.keep hb)
  have Q_7 := Lib.hid (Q_6.out.keep hb)
  have D_7 := Lib.hid (D_6.out.below hb D_6.out.lt)
  clear B_6 C_6 P_6 Q_6 D_6
  clear hb 
  have B_8 := Lib.hid (B_7.out.alloc B_7.out.size (.cells #[.int .i64 xa, .int .i64 xb, .int .i64 xc, .int .i64 xd, .int .i64 xe, .int .i64 xf, .int .i64 xg, .int .i64 xh] 23))
  have C_8 := Lib.hid (C_7.out.alloc (.cells #[.int .i64 xa, .int .i64 xb, .int .i64 xc, .int .i64 xd, .int .i64 xe, .int .i64 xf, .int .i64 xg, .int .i64 xh] 23))
  have P_8 := Lib.hid (P_7.out.keep (alloc_below w7 (.cells #[.int .i64 xa, .int .i64 xb, .int .i64 xc, .int .i64 xd, .int .i64 xe, .int .i64 xf, .int .i64 xg, .int .i64 xh] 23)))
  have Q_8 := Lib.hid (Q_7.out.keep (alloc_below w7 (.cells #[.int .i64 xa, .int .i64 xb, .int .i64 xc, .int .i64 xd, .int .i64 xe, .int .i64 xf, .int .i64 xg, .int .i64 xh] 23)))
  have D_8 := Lib.hid (D_7.out.alloc (.cells #[.int .i64 xa, .int .i64 xb, .int .i64 xc, .int .i64 xd, .int .i64 xe, .int .i64 xf, .int .i64 xg, .int .i64 xh] 23))
  clear B_7 C_7 P_7 Q_7 D_7
  have F_8 := Lib.hid (Lies.new w7 23 #[.int .i64 xa, .int .i64 xb, .int .i64 xc, .int .i64 xd, .int .i64 xe, .int .i64 xf, .int .i64 xg, .int .i64 xh])
  go_wp2_with fail
  refine (K8.out _ _ _ _ _ P_8.out Q_8.out).mono ?_
  rintro e w9 ⟨rfl, hb⟩
  have B_9 := Lib.hid (B_8.out.trans (hb.mono B_8.out.size))
  have C_9 := Lib.hid (C_8.out.below hb C_8.out.lt)
  have P_9 := Lib.hid (P_8.out.keep hb)
  have Q_9 := Lib.hid (Q_8.out.keep hb)
  have D_9 := Lib.hid (D_8.out.below hb D_8.out.lt)
  have F_9 := Lib.hid (F_8.out.below hb F_8.out.lt)
  clear B_8 C_8 P_8 Q_8 D_8 F_8
  clear hb 
  clear Q_9
  have c0_9 : w9.cell? ⟨w.heap.size, 0, none⟩ = some (.int .i64 a) := C_9.out.cell 0
  have c1_9 : w9.cell? ⟨w.heap.size, 1, none⟩ = some (.int .i64 b') := C_9.out.cell 1
  have c2_9 : w9.cell? ⟨w.heap.size, 2, none⟩ = some (.int .i64 c) := C_9.out.cell 2
  have c3_9 : w9.cell? ⟨w.heap.size, 3, none⟩ = some (.int .i64 d) := C_9.out.cell 3
  have c4_9 : w9.cell? ⟨w.heap.size, 4, none⟩ = some (.int .i64 e) := C_9.out.cell 4
  have c5_9 : w9.cell? ⟨w.heap.size, 5, none⟩ = some (.int .i64 f) := C_9.out.cell 5
  have c6_9 : w9.cell? ⟨w.heap.size, 6, none⟩ = some (.int .i64 g) := C_9.out.cell 6
  have c7_9 : w9.cell? ⟨w.heap.size, 7, none⟩ = some (.int .i64 h) := C_9.out.cell 7
  go_wp2_with fail
  refine (K9.out _).mono ?_
  rintro e w10 ⟨rfl, hb⟩
  clear c0_9 c1_9 c2_9 c3_9 c4_9 c5_9 c6_9 c7_9
  have B_10 := Lib.hid (B_9.out.trans (hb.mono B_9.out.size))
  have C_10 := Lib.hid (C_9.out.below hb C_9.out.lt)
  have P_10 := Lib.hid (P_9.out.keep hb)
  have D_10 := Lib.hid (D_9.out.below hb D_9.out.lt)
  have F_10 := Lib.hid (F_9.out.below hb F_9.out.lt)
  clear B_9 C_9 P_9 D_9 F_9
  clear hb 
  clear K1 K2 K3 K6 K7 K8 K9
  have c0_10 : w10.cell? ⟨w.heap.size, 0, none⟩ = some (.int .i64 a) := C_10.out.cell 0
  have c1_10 : w10.cell? ⟨w.heap.size, 1, none⟩ = some (.int .i64 b') := C_10.out.cell 1
  have c2_10 : w10.cell? ⟨w.heap.size, 2, none⟩ = some (.int .i64 c) := C_10.out.cell 2
  have c3_10 : w10.cell? ⟨w.heap.size, 3, none⟩ = some (.int .i64 d) := C_10.out.cell 3
  have c4_10 : w10.cell? ⟨w.heap.size, 4, none⟩ = some (.int .i64 e) := C_10.out.cell 4
  have c5_10 : w10.cell? ⟨w.heap.size, 5, none⟩ = some (.int .i64 f) := C_10.out.cell 5
  have c6_10 : w10.cell? ⟨w.heap.size, 6, none⟩ = some (.int .i64 g) := C_10.out.cell 6
  have c7_10 : w10.cell? ⟨w.heap.size, 7, none⟩ = some (.int .i64 h) := C_10.out.cell 7
  have d0_10 : w10.cell? ⟨w5.heap.size, 0, none⟩ = some (.int .i64 xa) := D_10.out.cell 0
  have d1_10 : w10.cell? ⟨w5.heap.size, 1, none⟩ = some (.int .i64 xb) := D_10.out.cell 1
  have d2_10 : w10.cell? ⟨w5.heap.size, 2, none⟩ = some (.int .i64 xc) := D_10.out.cell 2
  have d3_10 : w10.cell? ⟨w5.heap.size, 3, none⟩ = some (.int .i64 xd) := D_10.out.cell 3
  have d4_10 : w10.cell? ⟨w5.heap.size, 4, none⟩ = some (.int .i64 xe) := D_10.out.cell 4
  have d5_10 : w10.cell? ⟨w5.heap.size, 5, none⟩ = some (.int .i64 xf) := D_10.out.cell 5
  have d6_10 : w10.cell? ⟨w5.heap.size, 6, none⟩ = some (.int .i64 xg) := D_10.out.cell 6
  have d7_10 : w10.cell? ⟨w5.heap.size, 7, none⟩ = some (.int .i64 xh) := D_10.out.cell 7
  have f0_10 : w10.cell? ⟨w7.heap.size, 0, none⟩ = some (.int .i64 xa) := F_10.out.cell 0
  have f1_10 : w10.cell? ⟨w7.heap.size, 1, none⟩ = some (.int .i64 xb) := F_10.out.cell 1
  have f2_10 : w10.cell? ⟨w7.heap.size, 2, none⟩ = some (.int .i64 xc) := F_10.out.cell 2
  have f3_10 : w10.cell? ⟨w7.heap.size, 3, none⟩ = some (.int .i64 xd) := F_10.out.cell 3
  have f4_10 : w10.cell? ⟨w7.heap.size, 4, none⟩ = some (.int .i64 xe) := F_10.out.cell 4
  have f5_10 : w10.cell? ⟨w7.heap.size, 5, none⟩ = some (.int .i64 xf) := F_10.out.cell 5
  have f6_10 : w10.cell? ⟨w7.heap.size, 6, none⟩ = some (.int .i64 xg) := F_10.out.cell 6
  have f7_10 : w10.cell? ⟨w7.heap.size, 7, none⟩ = some (.int .i64 xh) := F_10.out.cell 7
  cases u with
  | false =>
    by_cases hk : k = 0
    · have t1 : (k != 0) = false := by simp [hk]
      go_wp2_with fail
      refine (K11.out _ hk).mono ?_
      rintro e w11 ⟨⟨q4, d4, rfl, hA4⟩, hb⟩
      clear c0_10 c1_10 c2_10 c3_10 c4_10 c5_10 c6_10 c7_10 d0_10 d1_10 d2_10 d3_10 d4_10 d5_10 d6_10 d7_10 f0_10 f1_10 f2_10 f3_10 f4_10 f5_10 f6_10 f7_10
      have B_11 := Lib.hid (B_10.out.trans (hb.mono B_10.out.size))
      have C_11 := Lib.hid (C_10.out.below hb C_10.out.lt)
      have P_11 := Lib.hid (P_10.out.keep hb)
      have D_11 := Lib.hid (D_10.out.below hb D_10.out.lt)
      have F_11 := Lib.hid (F_10.out.below hb F_10.out.lt)
      clear B_10 C_10 P_10 D_10 F_10
      clear hb 
      have Z_11 := Lib.hid (hA4)
      clear hA4
      go_wp2_with fail
      refine (K12.out _ _ _ B_11.out Z_11.out).mono ?_
      rintro e w12 ⟨rfl, hb⟩
      have B_12 := Lib.hid (B_11.out.trans (hb.mono B_11.out.size))
      have C_12 := Lib.hid (C_11.out.below hb C_11.out.lt)
      have P_12 := Lib.hid (P_11.out.keep hb)
      have D_12 := Lib.hid (D_11.out.below hb D_11.out.lt)
      have F_12 := Lib.hid (F_11.out.below hb F_11.out.lt)
      have Z_12 := Lib.hid (Z_11.out.keep hb)
      clear B_11 C_11 P_11 D_11 F_11 Z_11
      clear hb 
      go_wp2_with fail
      refine (AL.out _).mono ?_
      rintro e w13 ⟨rfl, hb⟩
      have B_13 := Lib.hid (B_12.out.trans (hb.mono B_12.out.size))
      have C_13 := Lib.hid (C_12.out.below hb C_12.out.lt)
      have P_13 := Lib.hid (P_12.out.keep hb)
      have D_13 := Lib.hid (D_12.out.below hb D_12.out.lt)
      have F_13 := Lib.hid (F_12.out.below hb F_12.out.lt)
      have Z_13 := Lib.hid (Z_12.out.keep hb)
      clear B_12 C_12 P_12 D_12 F_12 Z_12
      clear hb 
      go_wp2
      go_ret
      exact ⟨rfl, B_13.out⟩
    · have t1 : (k != 0) = true := by simp [hk]
      go_wp2_with fail
      refine (AL.out _).mono ?_
      rintro e w11 ⟨rfl, hb⟩
      clear c0_10 c1_10 c2_10 c3_10 c4_10 c5_10 c6_10 c7_10 d0_10 d1_10 d2_10 d3_10 d4_10 d5_10 d6_10 d7_10 f0_10 f1_10 f2_10 f3_10 f4_10 f5_10 f6_10 f7_10
      have B_11 := Lib.hid (B_10.out.trans (hb.mono B_10.out.size))
      have C_11 := Lib.hid (C_10.out.below hb C_10.out.lt)
      have P_11 := Lib.hid (P_10.out.keep hb)
      have D_11 := Lib.hid (D_10.out.below hb D_10.out.lt)
      have F_11 := Lib.hid (F_10.out.below hb F_10.out.lt)
      clear B_10 C_10 P_10 D_10 F_10
      clear hb 
      go_wp2
      go_ret
      exact ⟨rfl, B_11.out⟩
  | true =>
    go_wp2_with fail
    refine (K10.out (by first | rfl | trivial) _ _ _ P_10.out hd1).mono ?_
    rintro e w11 ⟨rfl, hb⟩
    clear c0_10 c1_10 c2_10 c3_10 c4_10 c5_10 c6_10 c7_10 d0_10 d1_10 d2_10 d3_10 d4_10 d5_10 d6_10 d7_10 f0_10 f1_10 f2_10 f3_10 f4_10 f5_10 f6_10 f7_10
    have B_11 := Lib.hid (B_10.out.trans (hb.mono B_10.out.size))
    have C_11 := Lib.hid (C_10.out.below hb C_10.out.lt)
    have P_11 := Lib.hid (P_10.out.keep hb)
    have D_11 := Lib.hid (D_10.out.below hb D_10.out.lt)
    have F_11 := Lib.hid (F_10.out.below hb F_10.out.lt)
    clear B_10 C_10 P_10 D_10 F_10
    clear hb 
    have B_12 := Lib.hid (B_11.out.alloc B_11.out.size (.cells #[.int .i64 a, .int .i64 b', .int .i64 c, .int .i64 d, .int .i64 e, .int .i64 f, .int .i64 g, .int .i64 h] 23))
    have C_12 := Lib.hid (C_11.out.alloc (.cells #[.int .i64 a, .int .i64 b', .int .i64 c, .int .i64 d, .int .i64 e, .int .i64 f, .int .i64 g, .int .i64 h] 23))
    have P_12 := Lib.hid (P_11.out.keep (alloc_below w11 (.cells #[.int .i64 a, .int .i64 b', .int .i64 c, .int .i64 d, .int .i64 e, .int .i64 f, .int .i64 g, .int .i64 h] 23)))
    have D_12 := Lib.hid (D_11.out.alloc (.cells #[.int .i64 a, .int .i64 b', .int .i64 c, .int .i64 d, .int .i64 e, .int .i64 f, .int .i64 g, .int .i64 h] 23))
    have F_12 := Lib.hid (F_11.out.alloc (.cells #[.int .i64 a, .int .i64 b', .int .i64 c, .int .i64 d, .int .i64 e, .int .i64 f, .int .i64 g, .int .i64 h] 23))
    clear B_11 C_11 P_11 D_11 F_11
    have G_12 := Lib.hid (Lies.new w11 23 #[.int .i64 a, .int .i64 b', .int .i64 c, .int .i64 d, .int .i64 e, .int .i64 f, .int .i64 g, .int .i64 h])
    clear K10
    have c0_12 : (w11.alloc (.cells #[.int .i64 a, .int .i64 b', .int .i64 c, .int .i64 d, .int .i64 e, .int .i64 f, .int .i64 g, .int .i64 h] 23)).cell? ⟨w.heap.size, 0, none⟩ = some (.int .i64 a) := C_12.out.cell 0
    have c1_12 : (w11.alloc (.cells #[.int .i64 a, .int .i64 b', .int .i64 c, .int .i64 d, .int .i64 e, .int .i64 f, .int .i64 g, .int .i64 h] 23)).cell? ⟨w.heap.size, 1, none⟩ = some (.int .i64 b') := C_12.out.cell 1
    have c2_12 : (w11.alloc (.cells #[.int .i64 a, .int .i64 b', .int .i64 c, .int .i64 d, .int .i64 e, .int .i64 f, .int .i64 g, .int .i64 h] 23)).cell? ⟨w.heap.size, 2, none⟩ = some (.int .i64 c) := C_12.out.cell 2
    have c3_12 : (w11.alloc (.cells #[.int .i64 a, .int .i64 b', .int .i64 c, .int .i64 d, .int .i64 e, .int .i64 f, .int .i64 g, .int .i64 h] 23)).cell? ⟨w.heap.size, 3, none⟩ = some (.int .i64 d) := C_12.out.cell 3
    have c4_12 : (w11.alloc (.cells #[.int .i64 a, .int .i64 b', .int .i64 c, .int .i64 d, .int .i64 e, .int .i64 f, .int .i64 g, .int .i64 h] 23)).cell? ⟨w.heap.size, 4, none⟩ = some (.int .i64 e) := C_12.out.cell 4
    have c5_12 : (w11.alloc (.cells #[.int .i64 a, .int .i64 b', .int .i64 c, .int .i64 d, .int .i64 e, .int .i64 f, .int .i64 g, .int .i64 h] 23)).cell? ⟨w.heap.size, 5, none⟩ = some (.int .i64 f) := C_12.out.cell 5
    have c6_12 : (w11.alloc (.cells #[.int .i64 a, .int .i64 b', .int .i64 c, .int .i64 d, .int .i64 e, .int .i64 f, .int .i64 g, .int .i64 h] 23)).cell? ⟨w.heap.size, 6, none⟩ = some (.int .i64 g) := C_12.out.cell 6
    have c7_12 : (w11.alloc (.cells #[.int .i64 a, .int .i64 b', .int .i64 c, .int .i64 d, .int .i64 e, .int .i64 f, .int .i64 g, .int .i64 h] 23)).cell? ⟨w.heap.size, 7, none⟩ = some (.int .i64 h) := C_12.out.cell 7
    have g0_12 : (w11.alloc (.cells #[.int .i64 a, .int .i64 b', .int .i64 c, .int .i64 d, .int .i64 e, .int .i64 f, .int .i64 g, .int .i64 h] 23)).cell? ⟨w11.heap.size, 0, none⟩ = some (.int .i64 a) := G_12.out.cell 0
    have g1_12 : (w11.alloc (.cells #[.int .i64 a, .int .i64 b', .int .i64 c, .int .i64 d, .int .i64 e, .int .i64 f, .int .i64 g, .int .i64 h] 23)).cell? ⟨w11.heap.size, 1, none⟩ = some (.int .i64 b') := G_12.out.cell 1
    have g2_12 : (w11.alloc (.cells #[.int .i64 a, .int .i64 b', .int .i64 c, .int .i64 d, .int .i64 e, .int .i64 f, .int .i64 g, .int .i64 h] 23)).cell? ⟨w11.heap.size, 2, none⟩ = some (.int .i64 c) := G_12.out.cell 2
    have g3_12 : (w11.alloc (.cells #[.int .i64 a, .int .i64 b', .int .i64 c, .int .i64 d, .int .i64 e, .int .i64 f, .int .i64 g, .int .i64 h] 23)).cell? ⟨w11.heap.size, 3, none⟩ = some (.int .i64 d) := G_12.out.cell 3
    have g4_12 : (w11.alloc (.cells #[.int .i64 a, .int .i64 b', .int .i64 c, .int .i64 d, .int .i64 e, .int .i64 f, .int .i64 g, .int .i64 h] 23)).cell? ⟨w11.heap.size, 4, none⟩ = some (.int .i64 e) := G_12.out.cell 4
    have g5_12 : (w11.alloc (.cells #[.int .i64 a, .int .i64 b', .int .i64 c, .int .i64 d, .int .i64 e, .int .i64 f, .int .i64 g, .int .i64 h] 23)).cell? ⟨w11.heap.size, 5, none⟩ = some (.int .i64 f) := G_12.out.cell 5
    have g6_12 : (w11.alloc (.cells #[.int .i64 a, .int .i64 b', .int .i64 c, .int .i64 d, .int .i64 e, .int .i64 f, .int .i64 g, .int .i64 h] 23)).cell? ⟨w11.heap.size, 6, none⟩ = some (.int .i64 g) := G_12.out.cell 6
    have g7_12 : (w11.alloc (.cells #[.int .i64 a, .int .i64 b', .int .i64 c, .int .i64 d, .int .i64 e, .int .i64 f, .int .i64 g, .int .i64 h] 23)).cell? ⟨w11.heap.size, 7, none⟩ = some (.int .i64 h) := G_12.out.cell 7
    by_cases hk : k = 0
    · have t1 : (k != 0) = false := by simp [hk]
      have d0_12 : (w11.alloc (.cells #[.int .i64 a, .int .i64 b', .int .i64 c, .int .i64 d, .int .i64 e, .int .i64 f, .int .i64 g, .int .i64 h] 23)).cell? ⟨w5.heap.size, 0, none⟩ = some (.int .i64 xa) := D_12.out.cell 0
      have d1_12 : (w11.alloc (.cells #[.int .i64 a, .int .i64 b', .int .i64 c, .int .i64 d, .int .i64 e, .int .i64 f, .int .i64 g, .int .i64 h] 23)).cell? ⟨w5.heap.size, 1, none⟩ = some (.int .i64 xb) := D_12.out.cell 1
      have d2_12 : (w11.alloc (.cells #[.int .i64 a, .int .i64 b', .int .i64 c, .int .i64 d, .int .i64 e, .int .i64 f, .int .i64 g, .int .i64 h] 23)).cell? ⟨w5.heap.size, 2, none⟩ = some (.int .i64 xc) := D_12.out.cell 2
      have d3_12 : (w11.alloc (.cells #[.int .i64 a, .int .i64 b', .int .i64 c, .int .i64 d, .int .i64 e, .int .i64 f, .int .i64 g, .int .i64 h] 23)).cell? ⟨w5.heap.size, 3, none⟩ = some (.int .i64 xd) := D_12.out.cell 3
      have d4_12 : (w11.alloc (.cells #[.int .i64 a, .int .i64 b', .int .i64 c, .int .i64 d, .int .i64 e, .int .i64 f, .int .i64 g, .int .i64 h] 23)).cell? ⟨w5.heap.size, 4, none⟩ = some (.int .i64 xe) := D_12.out.cell 4
      have d5_12 : (w11.alloc (.cells #[.int .i64 a, .int .i64 b', .int .i64 c, .int .i64 d, .int .i64 e, .int .i64 f, .int .i64 g, .int .i64 h] 23)).cell? ⟨w5.heap.size, 5, none⟩ = some (.int .i64 xf) := D_12.out.cell 5
      have d6_12 : (w11.alloc (.cells #[.int .i64 a, .int .i64 b', .int .i64 c, .int .i64 d, .int .i64 e, .int .i64 f, .int .i64 g, .int .i64 h] 23)).cell? ⟨w5.heap.size, 6, none⟩ = some (.int .i64 xg) := D_12.out.cell 6
      have d7_12 : (w11.alloc (.cells #[.int .i64 a, .int .i64 b', .int .i64 c, .int .i64 d, .int .i64 e, .int .i64 f, .int .i64 g, .int .i64 h] 23)).cell? ⟨w5.heap.size, 7, none⟩ = some (.int .i64 xh) := D_12.out.cell 7
      go_wp2_with fail
      refine (K11.out _ hk).mono ?_
      rintro e w13 ⟨⟨q4, d4, rfl, hA4⟩, hb⟩
      clear c0_12 c1_12 c2_12 c3_12 c4_12 c5_12 c6_12 c7_12 g0_12 g1_12 g2_12 g3_12 g4_12 g5_12 g6_12 g7_12 d0_12 d1_12 d2_12 d3_12 d4_12 d5_12 d6_12 d7_12
      have B_13 := Lib.hid (B_12.out.trans (hb.mono B_12.out.size))
      have C_13 := Lib.hid (C_12.out.below hb C_12.out.lt)
      have P_13 := Lib.hid (P_12.out.keep hb)
      have D_13 := Lib.hid (D_12.out.below hb D_12.out.lt)
      have F_13 := Lib.hid (F_12.out.below hb F_12.out.lt)
      have G_13 := Lib.hid (G_12.out.below hb G_12.out.lt)
      clear B_12 C_12 P_12 D_12 F_12 G_12
      clear hb 
      have Z_13 := Lib.hid (hA4)
      clear hA4
      go_wp2_with fail
      refine (K12.out _ _ _ B_13.out Z_13.out).mono ?_
      rintro e w14 ⟨rfl, hb⟩
      have B_14 := Lib.hid (B_13.out.trans (hb.mono B_13.out.size))
      have C_14 := Lib.hid (C_13.out.below hb C_13.out.lt)
      have P_14 := Lib.hid (P_13.out.keep hb)
      have D_14 := Lib.hid (D_13.out.below hb D_13.out.lt)
      have F_14 := Lib.hid (F_13.out.below hb F_13.out.lt)
      have G_14 := Lib.hid (G_13.out.below hb G_13.out.lt)
      have Z_14 := Lib.hid (Z_13.out.keep hb)
      clear B_13 C_13 P_13 D_13 F_13 G_13 Z_13
      clear hb 
      go_wp2_with fail
      refine (AL.out _).mono ?_
      rintro e w15 ⟨rfl, hb⟩
      have B_15 := Lib.hid (B_14.out.trans (hb.mono B_14.out.size))
      have C_15 := Lib.hid (C_14.out.below hb C_14.out.lt)
      have P_15 := Lib.hid (P_14.out.keep hb)
      have D_15 := Lib.hid (D_14.out.below hb D_14.out.lt)
      have F_15 := Lib.hid (F_14.out.below hb F_14.out.lt)
      have G_15 := Lib.hid (G_14.out.below hb G_14.out.lt)
      have Z_15 := Lib.hid (Z_14.out.keep hb)
      clear B_14 C_14 P_14 D_14 F_14 G_14 Z_14
      clear hb 
      go_wp2
      go_ret
      exact ⟨rfl, B_15.out⟩
    · have t1 : (k != 0) = true := by simp [hk]
      go_wp2_with fail
      refine (AL.out _).mono ?_
      rintro e w13 ⟨rfl, hb⟩
      clear c0_12 c1_12 c2_12 c3_12 c4_12 c5_12 c6_12 c7_12 g0_12 g1_12 g2_12 g3_12 g4_12 g5_12 g6_12 g7_12
      have B_13 := Lib.hid (B_12.out.trans (hb.mono B_12.out.size))
      have C_13 := Lib.hid (C_12.out.below hb C_12.out.lt)
      have P_13 := Lib.hid (P_12.out.keep hb)
      have D_13 := Lib.hid (D_12.out.below hb D_12.out.lt)
      have F_13 := Lib.hid (F_12.out.below hb F_12.out.lt)
      have G_13 := Lib.hid (G_12.out.below hb G_12.out.lt)
      clear B_12 C_12 P_12 D_12 F_12 G_12
      clear hb 
      go_wp2
      go_ret
      exact ⟨rfl, B_13.out⟩
end Ce
end Go.Proofs.Ytklhapekfgcplaa
