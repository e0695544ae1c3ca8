/- The walk of the law that holds a reader against the document's answer (OctetsReads). -/
import Derived.Test.YtakkkdmbghdhgaaW10
import Derived.Test.YtakkkdmbghdhgaaW8
import Derived.Test.YtakkkdmbghdhgaaSame
import Derived.Deep.RegionHeld3
namespace Go.Proofs.Ytakkkdmbghdhgaa
open Go.RowKit

/-- Both readers, side by side, each in a state; nothing that was there has turned. -/
def Rb (W wr : World) (g g2 : Nat) (s s2 : Nat × List Nat) : Prop :=
  PR wr g s ∧ RR wr g2 s2 ∧ g ≠ g2 ∧ W.heap.size ≤ g ∧ W.heap.size ≤ g2 ∧ Below W.heap.size W wr
theorem Rb.pr {W wr : World} {g g2 : Nat} {s s2 : Nat × List Nat} (h : Rb W wr g g2 s s2) : PR wr g s := h.1
theorem Rb.rr {W wr : World} {g g2 : Nat} {s s2 : Nat × List Nat} (h : Rb W wr g g2 s s2) : RR wr g2 s2 := h.2.1
theorem Rb.bel {W wr : World} {g g2 : Nat} {s s2 : Nat × List Nat} (h : Rb W wr g g2 s s2) : Below W.heap.size W wr := h.2.2.2.2.2
theorem Rb.left {W wr w1 : World} {g g2 : Nat} {s s1 s2 : Nat × List Nat} (h : Rb W wr g g2 s s2) (ht : Took wr g s1 w1) : Rb W w1 g g2 s1 s2 :=
  ⟨ht.1, h.2.1.turn ht.2 h.1.plain (fun e => h.2.2.1 e.symm), h.2.2.1, h.2.2.2.1, h.2.2.2.2.1, ht.2.below h.2.2.2.2.2 h.2.2.2.2.2.size (fun i hi => by rw [hi]; exact h.2.2.2.1)⟩
theorem Rb.right {W wr w1 : World} {g g2 : Nat} {s s1 s2 : Nat × List Nat} (h : Rb W wr g g2 s s2) (ht : RTook wr g2 s1 w1) : Rb W w1 g g2 s s1 :=
  ⟨h.1.turn ht.2 h.2.1.plain h.2.2.1, ht.1, h.2.2.1, h.2.2.2.1, h.2.2.2.2.1, ht.2.below h.2.2.2.2.2 h.2.2.2.2.2.size (fun i hi => by rw [hi]; exact h.2.2.2.2.1)⟩
theorem Rb.below {W wr w1 : World} {g g2 : Nat} {s s2 : Nat × List Nat} (h : Rb W wr g g2 s s2) (hb : Below wr.heap.size wr w1) : Rb W w1 g g2 s s2 :=
  ⟨h.1.below hb, h.2.1.turn (S := fun _ => False) (Turn.of_below hb) (fun _ hk => False.elim hk) (fun hf => hf), h.2.2.1, h.2.2.2.1, h.2.2.2.2.1, h.2.2.2.2.2.trans (hb.mono h.2.2.2.2.2.size)⟩
theorem Rb.drewN {W wr : World} {g g2 : Nat} {s s2 : Nat × List Nat} (h : Rb W wr g g2 s s2) (n : Nat) : Rb W (wr.drewN n) g g2 s s2 := h.below (below_drewN (Below.refl _ wr) n)
theorem Rb.drew {W wr : World} {g g2 : Nat} {s s2 : Nat × List Nat} (h : Rb W wr g g2 s s2) : Rb W wr.drew g g2 s s2 := h.below (Below.refl _ wr).drew
theorem rb_start {W w1 : World} {p : Option Addr} {n c g : Nat} {l : List Nat} (hA : At W p n l) (hnc : n ≤ c) (hn : n ≤ 1000000) (hg : W.heap.size ≤ g) (hp : PR w1 g (0, l)) (hb : Below W.heap.size W w1) :
    Rb W (w1.alloc (.cells #[.slice p n c, .int .i64 0, .int .i64 0] 46)) g w1.heap.size (0, l) (0, l) := by
  have ha := alloc_below w1 (.cells #[.slice p n c, .int .i64 0, .int .i64 0] 46)
  exact ⟨hp.below ha, ⟨p, n, c, 0, l, Lies.new w1 46 _, hnc, hn, Nat.zero_le _, (hA.keep hb).keep ha, fun _ => by simp, fun h0 => absurd rfl h0⟩, Nat.ne_of_lt hp.lt, hg, hb.size, hb.trans (ha.mono hb.size)⟩
theorem rbool_len (s : Nat × List Nat) : (Oc.rbool s).2.2.length ≤ s.2.length := by
  unfold Oc.rbool
  simp only
  split
  · exact Oc.rnum_len s 1
  · exact Nat.zero_le _
theorem rrun_len (s : Nat × List Nat) : (Oc.rrun s).2.2.length ≤ s.2.length := by
  unfold Oc.rrun
  have h := Oc.rnum_len s 4
  split
  · exact h
  · split
    · exact Nat.zero_le _
    · simp only [List.length_drop]
      omega

theorem reads_no (p p2 : Option Addr) (n c n2 c2 : Nat) (W : World) (hn : n ≤ 9223372036854775807) (hn2 : n2 ≤ 9223372036854775807) (h : 1000 < n ∨ 100 < n2) :
    Calls Try.prog 4 #[.slice p n c, .slice p2 n2 c2] W fun e w' => e = .returned (.bool true) ∧ Below W.heap.size W w' := by
  by_cases h1 : 1000 < n
  · have h1' : (1000 : Int) < (n : Int) := by omega
    clear h hn hn2
    go_enter Try.func4, Try.ntmps4
    go_wp2_with fail
    refine (alive_any _).mono ?_
    rintro e w1 ⟨rfl, hb⟩
    have HB := Lib.hid hb
    clear hb
    go_wp2
    go_ret
    exact ⟨rfl, HB.out⟩
  · have h1' : (n : Int) ≤ 1000 := by omega
    have h2 : (100 : Int) < (n2 : Int) := by omega
    clear h hn hn2 h1
    go_enter Try.func4, Try.ntmps4
    go_wp2_with fail
    refine (alive_any _).mono ?_
    rintro e w1 ⟨rfl, hb⟩
    have HB := Lib.hid hb
    clear hb
    go_wp2
    go_ret
    exact ⟨rfl, HB.out⟩
set_option maxRecDepth 100000 in
set_option maxHeartbeats 4000000 in
theorem reads_yes (p p2 : Option Addr) (n c n2 c2 : Nat) (bs : List Nat) (l : List Oc.Th) (W : World) (hn : n ≤ 1000) (hn2 : n2 ≤ 100) (hnc : n ≤ c) (hA : At W p n bs) (h : Ths W p2 n2 l) :
    Calls Try.prog 4 #[.slice p n c, .slice p2 n2 c2] W fun e w' => e = .returned (.bool true) ∧ Below W.heap.size W w' := by
  have i1 : (n : Int) ≤ 1000 := by omega
  have i2 : (n2 : Int) ≤ 100 := by omega
  have NR := Lib.hid (newr_any p n c bs W (by omega) hA)
  have ST := Lib.hid (fun w1 g hg hp hb => rb_start (w1 := w1) (g := g) hA hnc (by omega) hg hp hb)
  have HL : Hid (bs.length ≤ 1000) := Lib.hid (by rw [hA.1]; exact hn)
  have H := Lib.hid h
  clear hn hn2 hA h
  go_enter Try.func4, Try.ntmps4
  go_wp2_with fail
  refine NR.out.mono ?_
  rintro e w1 ⟨g, rfl, hg, hr, hb⟩
  have S1 := Lib.hid (ST.out w1 g hg hr hb)
  clear NR ST hg hr hb
  go_wp2_with fail
  generalize hw2 : w1.alloc (.cells #[.slice p n c, .int .i64 0, .int .i64 0] 46) = w2 at *
  generalize hg2 : w1.heap.size = g2 at *
  clear hw2 hg2
  go_loopw [7] (fun i wr => ∃ (k : Nat) (s : Nat × List Nat), k ≤ n2 ∧ i = .int .i64 (k : Int) ∧ Hid (s.2.length ≤ 1000) ∧ Rb W wr g g2 s s) (fun i _ => n2 - (intOf i).toNat)
  case atStart => exact ⟨0, (0, bs), Nat.zero_le _, rfl, HL, S1.out⟩
  case round =>
    obtain ⟨k, s, hk, rfl, LS, hR⟩ := hrel
    have R := Lib.hid hR
    clear hR S1 HL
    by_cases hlt : k < n2
    · obtain ⟨b, o, rfl, hbl, hth⟩ := thg_at H.out R.out.bel hlt
      have hlt' : (k : Int) < (n2 : Int) := by omega
      have hk0 : (0 : Int) ≤ (k : Int) := by omega
      have TH : Hid (∀ w', Below W.heap.size W w' → Thg w' b (o + k * 4) (l.getD k Oc.t0)) := by
        refine Lib.hid fun w' hw => ?_
        obtain ⟨b', o', e, _, ht'⟩ := thg_at H.out hw hlt
        injection e with e
        injection e with e1 e2
        subst e1 e2
        exact ht'
      generalize l.getD k Oc.t0 = t at *
      obtain ⟨c0, c1, c2, _, k0, _⟩ := hth
      obtain ⟨kd, tn, tz, tr⟩ := t
      simp only at c0 c1 c2 k0
      have k0' : (kd : Int) < 256 := by omega
      clear k0 hbl
      by_cases z0 : kd % 4 = 0
      · have e0 : ((kd : Int) % 4 == 0) = true := by simp; omega
        have L2 := Lib.hid (Nat.le_trans (Oc.rnum_len s tz) LS.out)
        clear c1
        go_wp2_with fail
        go_region_held3 (fun w' => w'.cell? ⟨b, o + k * 4 + 2, none⟩ = some (.int .i64 tz))
          (first | go_keep | exact d2 | exact f2)
          (first
            | (go_at_call 20; ((with_reducible refine (get_any _ s _ _ R.out.drew.pr).mono ?_); rintro e w3 ⟨rfl, ht⟩; have R1 := R.out.drew.left ht; obtain ⟨_, _, d2, _⟩ := TH.out w3 R1.bel))
            | (go_at_call 21; ((with_reducible refine (rget_any _ s _ _ R1.rr).mono ?_); rintro e w4 ⟨rfl, ht2⟩; have R2 := R1.right ht2; obtain ⟨_, _, f2, _⟩ := TH.out w4 R2.bel)))
        have RN := Lib.hid R2
        clear R1 R2 ht ht2 d2 f2 c2 R
        generalize Oc.rnum s tz = r at *
        obtain ⟨u, s1⟩ := r
        go_wp2_with fail
        refine (left_any g s1 _ RN.out.pr).mono ?_
        rintro e w' ⟨rfl, rfl⟩
        go_wp2_with fail
        refine (rleft_any g2 s1 _ RN.out.rr).mono ?_
        rintro e w' ⟨rfl, m1, rfl⟩
        have RM := Lib.hid (RN.out.drewN m1)
        clear RN
        go_wp2_with fail
        refine (end_any g s1 _ RM.out.pr).mono ?_
        rintro e w' ⟨rfl, rfl⟩
        go_wp2_with fail
        refine (rend_any g2 s1 _ RM.out.rr).mono ?_
        rintro e w' ⟨rfl, m2, rfl⟩
        have RE := Lib.hid (World.drewN_drewN _ m1 m2 ▸ RM.out.drewN m2)
        clear RM
        go_wp2
        go_roundw
        case rel => exact ⟨k + 1, s1, by omega, by go_num, L2, RE.out⟩
        case measure => simp [intOf]; omega
      · have e0 : ((kd : Int) % 4 == 0) = false := by simp; omega
        clear c1 c2 TH
        by_cases z1 : kd % 4 = 1
        · have e1 : ((kd : Int) % 4 == 1) = true := by simp; omega
          have L2 := Lib.hid (Nat.le_trans (Oc.rnum_len s 8) LS.out)
          go_wp2_with fail
          refine (gint_any _ s _ R.out.pr).mono ?_
          rintro e w3 ⟨rfl, ht⟩
          have R1 := Lib.hid (R.out.left ht)
          clear ht R c0
          go_wp2_with fail
          refine (rgint_any _ s _ R1.out.rr).mono ?_
          rintro e w4 ⟨rfl, ht⟩
          have RN := Lib.hid (R1.out.right ht)
          clear ht R1
          generalize Oc.rnum s 8 = r at *
          obtain ⟨u, s1⟩ := r
          go_wp2_with fail
          refine (left_any g s1 _ RN.out.pr).mono ?_
          rintro e w' ⟨rfl, rfl⟩
          go_wp2_with fail
          refine (rleft_any g2 s1 _ RN.out.rr).mono ?_
          rintro e w' ⟨rfl, m1, rfl⟩
          have RM := Lib.hid (RN.out.drewN m1)
          clear RN
          go_wp2_with fail
          refine (end_any g s1 _ RM.out.pr).mono ?_
          rintro e w' ⟨rfl, rfl⟩
          go_wp2_with fail
          refine (rend_any g2 s1 _ RM.out.rr).mono ?_
          rintro e w' ⟨rfl, m2, rfl⟩
          have RE := Lib.hid (World.drewN_drewN _ m1 m2 ▸ RM.out.drewN m2)
          clear RM
          go_wp2
          go_roundw
          case rel => exact ⟨k + 1, s1, by omega, by go_num, L2, RE.out⟩
          case measure => simp [intOf]; omega
        · have e1 : ((kd : Int) % 4 == 1) = false := by simp; omega
          by_cases z2 : kd % 4 = 2
          · have e2 : ((kd : Int) % 4 == 2) = true := by simp; omega
            have L2 := Lib.hid (Nat.le_trans (rbool_len s) LS.out)
            go_wp2_with fail
            refine (gbool_any _ s _ R.out.pr).mono ?_
            rintro e w3 ⟨rfl, ht⟩
            have R1 := Lib.hid (R.out.left ht)
            clear ht R c0
            go_wp2_with fail
            refine (rgbool_any _ s _ R1.out.rr).mono ?_
            rintro e w4 ⟨rfl, ht⟩
            have RN := Lib.hid (R1.out.right ht)
            clear ht R1
            generalize Oc.rbool s = r at *
            obtain ⟨u, s1⟩ := r
            go_wp2_with fail
            refine (left_any g s1 _ RN.out.pr).mono ?_
            rintro e w' ⟨rfl, rfl⟩
            go_wp2_with fail
            refine (rleft_any g2 s1 _ RN.out.rr).mono ?_
            rintro e w' ⟨rfl, m1, rfl⟩
            have RM := Lib.hid (RN.out.drewN m1)
            clear RN
            go_wp2_with fail
            refine (end_any g s1 _ RM.out.pr).mono ?_
            rintro e w' ⟨rfl, rfl⟩
            go_wp2_with fail
            refine (rend_any g2 s1 _ RM.out.rr).mono ?_
            rintro e w' ⟨rfl, m2, rfl⟩
            have RE := Lib.hid (World.drewN_drewN _ m1 m2 ▸ RM.out.drewN m2)
            clear RM
            go_wp2
            go_roundw
            case rel => exact ⟨k + 1, s1, by omega, by go_num, L2, RE.out⟩
            case measure => simp [intOf]; omega
          · have e2 : ((kd : Int) % 4 == 2) = false := by simp; omega
            have L2 := Lib.hid (Nat.le_trans (rrun_len s) LS.out)
            have LR : Hid ((Oc.rrun s).1.length ≤ 1000000) := Lib.hid (by
              have h1 := Oc.rnum_len s 4
              have := LS.out
              unfold Oc.rrun
              split
              · exact Nat.zero_le _
              · split
                · exact Nat.zero_le _
                · simp only [List.length_take]
                  omega)
            go_wp2_with fail
            refine (grun_any _ s _ R.out.pr (Nat.le_trans LS.out (by decide))).mono ?_
            rintro e w3 ⟨v3, rfl, ho, ht⟩
            have R1 := Lib.hid (R.out.left ht)
            obtain ⟨q3, d3, rfl, _, hA3⟩ := ho
            have A3 := Lib.hid hA3
            clear ht R c0 hA3
            go_wp2_with fail
            refine (rgrun_any _ s _ R1.out.rr).mono ?_
            rintro e w4 ⟨v4, rfl, ho, ht⟩
            have R2 := Lib.hid (R1.out.right ht)
            have A3' := Lib.hid (A3.out.plain ht.2 R1.out.rr.plain)
            obtain ⟨q4, d4, rfl, _, hA4⟩ := ho
            have A4 := Lib.hid hA4
            clear ht R1 A3 hA4
            go_wp2_with fail
            refine (same_one q3 q4 _ d3 d4 _ w4 LR.out A3'.out A4.out).mono ?_
            rintro e w5 ⟨rfl, hb⟩
            have RN := Lib.hid (R2.out.below hb)
            clear hb R2 A3' A4
            generalize Oc.rrun s = r at *
            obtain ⟨u, s1⟩ := r
            go_wp2_with fail
            refine (left_any g s1 _ RN.out.pr).mono ?_
            rintro e w' ⟨rfl, rfl⟩
            go_wp2_with fail
            refine (rleft_any g2 s1 _ RN.out.rr).mono ?_
            rintro e w' ⟨rfl, m1, rfl⟩
            have RM := Lib.hid (RN.out.drewN m1)
            clear RN
            go_wp2_with fail
            refine (end_any g s1 _ RM.out.pr).mono ?_
            rintro e w' ⟨rfl, rfl⟩
            go_wp2_with fail
            refine (rend_any g2 s1 _ RM.out.rr).mono ?_
            rintro e w' ⟨rfl, m2, rfl⟩
            have RE := Lib.hid (World.drewN_drewN _ m1 m2 ▸ RM.out.drewN m2)
            clear RM
            go_wp2
            go_roundw
            case rel => exact ⟨k + 1, s1, by omega, by go_num, L2, RE.out⟩
            case measure => simp [intOf]; omega
    · obtain rfl : k = n2 := by omega
      go_wp2_with fail
      refine (alive_any _).mono ?_
      rintro e w3 ⟨rfl, hb⟩
      have B := Lib.hid (R.out.bel.trans (hb.mono R.out.bel.size))
      clear hb R
      go_wp2_with fail
      refine (get_nil 3 _).mono ?_
      rintro e w' ⟨rfl, rfl⟩
      go_wp2_with fail
      refine (nil_int _).mono ?_
      rintro e w' ⟨rfl, rfl⟩
      go_wp2_with fail
      refine (nil_bool _).mono ?_
      rintro e w' ⟨rfl, rfl⟩
      go_wp2_with fail
      refine (nil_get_run _).mono ?_
      rintro e w' ⟨rfl, rfl⟩
      go_wp2_with fail
      refine (nil_left _).mono ?_
      rintro e w' ⟨rfl, rfl⟩
      go_wp2_with fail
      refine (nil_end _).mono ?_
      rintro e w' ⟨rfl, rfl⟩
      go_wp2
      go_ret
      exact ⟨rfl, B.out⟩
theorem reads_any (p p2 : Option Addr) (n c n2 c2 : Nat) (bs : List Nat) (l : List Oc.Th) (W : World) (hn : n ≤ 9223372036854775807) (hn2 : n2 ≤ 9223372036854775807) (hnc : n ≤ c) (hA : At W p n bs) (h : Ths W p2 n2 l) :
    Calls Try.prog 4 #[.slice p n c, .slice p2 n2 c2] W fun e w' => e = .returned (.bool true) ∧ Below W.heap.size W w' := by
  by_cases hd : 1000 < n ∨ 100 < n2
  · exact reads_no p p2 n c n2 c2 W hn hn2 hd
  · exact reads_yes p p2 n c n2 c2 bs l W (by omega) (by omega) hnc hA h
end Go.Proofs.Ytakkkdmbghdhgaa
