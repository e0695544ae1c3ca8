/- The live question of layer 7's laws: it returns true. Condition: the contracts of package excess. -/
import Derived.Test.YtfmnbmjfkplieaaExFace
namespace Go.Proofs.Ytfmnbmjfkplieaa
open Go.RowKit Se

namespace Ex
set_option maxRecDepth 100000 in
set_option maxHeartbeats 8000000 in
/-- The live question. -/
theorem xalive_any (I : Face) (w : World) : Calls Try.prog 7 #[] w fun e w' => e = .returned (.bool true) ∧ Below w.heap.size w w' := by
  have N := Lib.hid (I.new_yes 100 5 40 w (by decide) (by decide))
  have N2 := Lib.hid (fun W => I.new_no 100 5 1099511627777 W (by decide))
  have H := Lib.hid (fun W => face.new_yes 1099511627776 0 W (by decide))
  have S0 := Lib.hid (fun h F W (hp : I.IX W w.heap.size h F 100 5 40 []) => I.sum _ h F 100 5 40 [] 0 3 W hp (by unfold Sorted; decide) (by decide) (by decide) (by decide) (by decide) (by decide) (by decide) (by decide) (by decide))
  have P1 := Lib.hid (fun h F W (hp : I.IX W w.heap.size h F 100 5 40 []) => I.put _ h F 100 5 40 [] ⟨2, 0, 45⟩ W hp (by unfold Sorted; decide) (by decide) (by decide) (by decide) (by decide))
  have S1 := Lib.hid (fun h F W (hp : I.IX W w.heap.size h F 100 5 40 e1) => I.sum _ h F 100 5 40 e1 0 10 W hp srt1 rgt1 (by decide) (by decide) (by decide) (by decide) (by decide) (by decide) (by decide))
  have P2 := Lib.hid (fun h F W (hp : I.IX W w.heap.size h F 100 5 40 e1) => I.put _ h F 100 5 40 e1 ⟨4, 0, 30⟩ W hp srt1 rgt1 (by decide) (by decide) (by decide))
  have S2 := Lib.hid (fun h F W (hp : I.IX W w.heap.size h F 100 5 40 e2) => I.sum _ h F 100 5 40 e2 (-7) 10 W hp srt2 rgt2 (by decide) (by decide) (by decide) (by decide) (by decide) (by decide) (by decide))
  have S3 := Lib.hid (fun h F W (hp : I.IX W w.heap.size h F 100 5 40 e2) => I.sum _ h F 100 5 40 e2 5 5 W hp srt2 rgt2 (by decide) (by decide) (by decide) (by decide) (by decide) (by decide) (by decide))
  have R4 := Lib.hid (fun h F W (hp : I.IX W w.heap.size h F 100 5 40 e2) => I.ser _ h F 100 5 40 e2 W hp srt2 rgt2 (by decide) (by decide) (by decide))
  have S5 := Lib.hid (fun B h F W (hp : PSF W B h F 100 5 e2) => I.ssum B h F 100 5 40 e2 1 4 W hp srt2 rgt2 (by decide) (by decide) (by decide) (by decide) (by decide) (by decide) (by decide))
  have S6 := Lib.hid (fun B h F W (hp : PSF W B h F 1099511627776 0 []) => I.ssum B h F 1099511627776 0 (-1099511627776) [] 0 9000000 W hp (by unfold Sorted; decide) (by decide) (by decide) (by decide) (by decide) (by decide) (by decide) (by decide) (by decide))
  rw [p1.1] at P1
  rw [p2.1] at P2
  simp only [p1.2, p2.2] at P1 P2
  unfold rval at P1 P2
  simp only at P1 P2
  rw [t0.1] at S0
  rw [t0.2.1] at S1
  rw [t0.2.2.1] at S2
  rw [t0.2.2.2.1] at S3
  rw [t0.2.2.2.2] at S5
  rw [hot] at S6
  go_enter Try.func7, Try.ntmps7
  go_wp2_with fail
  refine N.out.mono ?_
  rintro e w1 ⟨h, F1, rfl, hp, hb⟩
  have X1 := Lib.hid hp
  have B1 := Lib.hid hb
  clear hp hb N
  go_wp2_with fail
  refine (S0.out h F1 _ X1.out).mono ?_
  rintro e w2 ⟨rfl, hp⟩
  obtain ⟨F2, hp, hb⟩ := I.next_below X1.out B1.out B1.out.size hp
  have X2 := Lib.hid hp
  have B2 := Lib.hid hb
  clear hp hb X1 B1 S0
  go_wp2_with fail
  refine (P1.out h F2 _ X2.out).mono ?_
  rintro e w3 ⟨rfl, hp⟩
  obtain ⟨F3, hp, hb⟩ := I.next_below X2.out B2.out B2.out.size hp
  have X3 := Lib.hid hp
  have B3 := Lib.hid hb
  clear hp hb X2 B2 P1
  go_wp2_with fail
  refine (S1.out h F3 _ X3.out).mono ?_
  rintro e w4 ⟨rfl, hp⟩
  obtain ⟨F4, hp, hb⟩ := I.next_below X3.out B3.out B3.out.size hp
  have X4 := Lib.hid hp
  have B4 := Lib.hid hb
  clear hp hb X3 B3 S1
  go_wp2_with fail
  refine (P2.out h F4 _ X4.out).mono ?_
  rintro e w5 ⟨rfl, hp⟩
  obtain ⟨F5, hp, hb⟩ := I.next_below X4.out B4.out B4.out.size hp
  have X5 := Lib.hid hp
  have B5 := Lib.hid hb
  clear hp hb X4 B4 P2
  go_wp2_with fail
  refine (S2.out h F5 _ X5.out).mono ?_
  rintro e w6 ⟨rfl, hp⟩
  obtain ⟨F6, hp, hb⟩ := I.next_below X5.out B5.out B5.out.size hp
  have X6 := Lib.hid hp
  have B6 := Lib.hid hb
  clear hp hb X5 B5 S2
  go_wp2_with fail
  refine (N2.out _).mono ?_
  rintro e w7 ⟨rfl, hb⟩
  have X7 := Lib.hid (I.keep X6.out hb)
  have B7 := Lib.hid (B6.out.trans (hb.mono B6.out.size))
  have F7e : True := trivial
  clear hb X6 B6 N2 F7e
  go_wp2_with fail
  refine (H.out _).mono ?_
  rintro e w8 ⟨hh, FH, rfl, hq, hb⟩
  have X8 := Lib.hid (I.keep X7.out hb)
  have B8 := Lib.hid (B7.out.trans (hb.mono B7.out.size))
  have Q8 := Lib.hid hq
  have D8 := Lib.hid (show ∀ k, F6 k → ¬ FH k from fun k hk hk2 => by
    have a1 := (I.foot X7.out hk).2
    have a2 := (face.foot hq hk2).1
    omega)
  clear hb hq X7 B7 H
  go_wp2_with fail
  refine (S3.out h F6 _ X8.out).mono ?_
  rintro e w9 ⟨rfl, FF, hp, ht, hg⟩
  have X9 := Lib.hid hp
  have B9 := Lib.hid (ht.below B8.out B8.out.size (fun i hi => (I.foot X8.out hi).1))
  have Q9 := Lib.hid (face.turn Q8.out ht (fun k h1 h2 => D8.out k h2 h1))
  clear hp ht hg X8 B8 Q8 D8 S3
  go_wp2_with fail
  refine (R4.out h FF _ X9.out).mono ?_
  rintro e w10 ⟨h2, F2, rfl, hq, hb⟩
  have B10 := Lib.hid (B9.out.trans (hb.mono B9.out.size))
  have Q10 := Lib.hid (face.keep Q9.out hb)
  have R10 := Lib.hid hq
  clear hb hq X9 B9 Q9 R4
  go_wp2_with fail
  refine (S5.out _ h2 F2 _ R10.out).mono ?_
  rintro e w11 ⟨rfl, hb⟩
  have B11 := Lib.hid (B10.out.trans (hb.mono B10.out.size))
  have Q11 := Lib.hid (face.keep Q10.out hb)
  clear hb B10 Q10 R10 S5
  go_wp2_with fail
  refine (S6.out _ hh FH _ Q11.out).mono ?_
  rintro e w12 ⟨rfl, hb⟩
  have B12 := Lib.hid (B11.out.trans (hb.mono B11.out.size))
  clear hb B11 Q11 S6
  go_wp2_with fail
  refine (I.nil_ssum 0 0 9 _).mono ?_
  rintro e w13 ⟨rfl, hb⟩
  have B13 := Lib.hid (B12.out.trans (hb.mono B12.out.size))
  clear hb B12
  go_wp2
  go_ret
  exact ⟨rfl, B13.out⟩
end Ex
end Go.Proofs.Ytfmnbmjfkplieaa
