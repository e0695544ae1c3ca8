/- Walks over a reader's other calls in package octets. -/
import Derived.Test.YtakkkdmbghdhgaaW6
namespace Go.Proofs.Ytakkkdmbghdhgaa
open Go.RowKit

theorem PR.lt256 {w : World} {g : Nat} {s : Nat × List Nat} (h : PR w g s) : ∀ x ∈ s.2, x < 256 := by
  rcases h with ⟨_, hl, _⟩ | ⟨_, p, n, c, _, _, hA⟩
  · rw [hl]
    simp
  · exact hA.2.1
theorem pr_fail {w : World} {g : Nat} {s : Nat × List Nat} (h : PR w g s) (n : Nat) (hn : n ≠ 0) :
    ∃ v u, Lies w g 61 #[v, u] ∧ Took w g (n, []) ((w.setCell ⟨g, 0, none⟩ (.slice none 0 0)).setCell ⟨g, 1, none⟩ (.int .i64 (n : Int))) := by
  rcases h with ⟨_, _, hb⟩ | ⟨_, p, k, c, hb, _⟩
  · exact ⟨_, _, hb, took_fail hb n hn⟩
  · exact ⟨_, _, hb, took_fail hb n hn⟩
set_option maxHeartbeats 1000000 in
theorem gbool_any (g : Nat) (s : Nat × List Nat) (w : World) (h : PR w g s) :
    Calls Try.prog 24 #[.pointer (some ⟨g, 0, none⟩)] w fun e w' => e = .returned (.bool (Oc.rbool s).1) ∧ Took w g (Oc.rbool s).2 w' := by
  have N := Lib.hid (get_any g s 1 w h)
  have L := Oc.rnum_lt h.lt256 1 1 rfl
  have E1 : (Oc.rbool s).1 = decide ((Oc.rnum s 1).1 = 1) := rfl
  have E2 : (Oc.rbool s).2 = if (Oc.rnum s 1).1 ≤ 1 then (Oc.rnum s 1).2 else (2, []) := rfl
  have H1 := Lib.hid E1
  have H2 := Lib.hid E2
  clear h E1 E2
  generalize Oc.rnum s 1 = r at *
  obtain ⟨u, t⟩ := r
  simp only at L
  by_cases hu : u ≤ 1
  · have hu' : (u : Int) ≤ 1 := by omega
    go_enter Try.func24, Try.ntmps24
    go_wp2_with fail
    refine N.out.mono ?_
    rintro e w1 ⟨rfl, ht⟩
    have HT := Lib.hid ht
    clear ht
    go_wp2
    go_ret
    refine ⟨?_, by rw [H2.out, if_pos hu]; exact HT.out⟩
    rw [H1.out]
    exact ret_bool (eq_nat u 1)
  · have hu' : (1 : Int) < (u : Int) := by omega
    go_enter Try.func24, Try.ntmps24
    go_wp2_with fail
    refine N.out.mono ?_
    rintro e w1 ⟨rfl, ht⟩
    obtain ⟨x, y, hb, hf⟩ := pr_fail ht.1 2 (by decide)
    have F := Lib.hid (fail_any g 61 x y 2 w1 hb)
    have HF := Lib.hid (took_trans ht.2 hf)
    clear ht hb hf
    go_wp2_with fail
    refine F.out.mono ?_
    rintro e w2 ⟨rfl, rfl⟩
    go_wp2
    go_ret
    refine ⟨?_, by rw [H2.out, if_neg hu]; exact HF.out⟩
    rw [H1.out]
    exact ret_bool (eq_nat u 1)
/-- Bytes that are handed out: they read as a list. -/
def Out (w : World) (v : Value) (l : List Nat) : Prop := ∃ q d, v = .slice q l.length d ∧ l.length ≤ d ∧ At w q l.length l
theorem out_nil (w : World) : Out w (.slice none 0 0) [] := ⟨none, 0, rfl, Nat.le_refl _, at_nil w⟩
set_option maxHeartbeats 1000000 in
theorem grun_any (g : Nat) (s : Nat × List Nat) (w : World) (h : PR w g s) (hl : s.2.length ≤ 1000000) :
    Calls Try.prog 26 #[.pointer (some ⟨g, 0, none⟩)] w fun e w' => ∃ v, e = .returned v ∧ Out w' v (Oc.rrun s).1 ∧ Took w g (Oc.rrun s).2 w' := by
  have N := Lib.hid (get_any g s 4 w h)
  have L := Oc.rnum_lt h.lt256 4 4 rfl
  have LL := Nat.le_trans (Oc.rnum_len s 4) hl
  have E : Oc.rrun s = if (Oc.rnum s 4).2.1 ≠ 0 then ([], (Oc.rnum s 4).2) else if (Oc.rnum s 4).2.2.length < (Oc.rnum s 4).1 then ([], (2, [])) else ((Oc.rnum s 4).2.2.take (Oc.rnum s 4).1, (0, (Oc.rnum s 4).2.2.drop (Oc.rnum s 4).1)) := rfl
  have H1 := Lib.hid E
  clear h E hl
  generalize Oc.rrun s = z at *
  generalize Oc.rnum s 4 = r at *
  obtain ⟨u, t⟩ := r
  simp only at L LL H1
  have hu : (u : Int) < 4294967296 := by omega
  clear L
  go_enter Try.func26, Try.ntmps26
  go_wp2_with fail
  refine N.out.mono ?_
  rintro e w1 ⟨rfl, hp, ht⟩
  have HT := Lib.hid ht
  have HP := Lib.hid hp
  rcases hp with ⟨he, hl, hb⟩ | ⟨he, p, n, c, hb, hnc, hA⟩
  · have Y := Lib.hid (rworks_no g _ _ he w1 hb)
    have Z := Lib.hid he
    clear he hl hb ht
    go_wp2_with fail
    refine Y.out.mono ?_
    rintro e w' ⟨rfl, rfl⟩
    go_wp2
    go_ret
    refine ⟨_, rfl, ?_⟩
    rw [H1.out, if_pos Z.out]
    exact ⟨out_nil _, HP.out, HT.out⟩
  · have Y := Lib.hid (rworks_yes g _ w1 hb)
    have Z := Lib.hid he
    have hn : n ≤ 1000000 := by rw [← hA.1]; exact LL
    have hn2 := hA.1
    by_cases hk : u ≤ n
    · have T := Lib.hid (take_yes g u n c p t.2 w1 hb hk hnc hA)
      have hc := hnc
      clear he hb ht hA hnc
      go_wp2_with fail
      refine Y.out.mono ?_
      rintro e w' ⟨rfl, rfl⟩
      go_wp2_with fail
      refine T.out.mono ?_
      rintro e w2 ⟨rfl, ht2, hA2⟩
      have C := Lib.hid (clone_any p u c _ w2 (by omega) hA2)
      have HT2 := Lib.hid ht2
      clear ht2 hA2
      go_wp2_with fail
      refine C.out.mono ?_
      rintro e w3 ⟨q, d, rfl, hd, hA3, hb3⟩
      have H3 := Lib.hid hA3
      have HB3 := Lib.hid hb3
      have HL : Hid ((t.2.take u).length = u) := Lib.hid (by rw [List.length_take]; omega)
      clear hA3 hb3 hn2
      go_wp2
      go_ret
      refine ⟨_, rfl, ?_⟩
      have e1 : z = (t.2.take u, (0, t.2.drop u)) := by
        rw [H1.out, if_neg (by rw [Z.out]; simp), if_neg ?_]
        have := HL.out
        rw [List.length_take] at this
        omega
      rw [e1]
      refine ⟨⟨q, d, by rw [HL.out]; rfl, by rw [HL.out]; exact hd, by rw [HL.out]; exact H3.out⟩, HT2.out.1.turn (S := fun _ => False) (Turn.of_below HB3.out) (fun k hk => False.elim hk) (fun hk => hk), ?_⟩
      exact HT.out.trans (HT2.out.2.trans (Turn.of_below (S := fun k => k = g) HB3.out) (fun i hi => .inl hi)) (fun i hi => .inl hi)
    · have T := Lib.hid (take_no g u n c p w1 hb (by omega))
      have HK : Hid (t.2.length < u) := Lib.hid (by omega)
      have C := Lib.hid (fun W => clone_any none 0 0 [] W (by decide) (at_nil W))
      clear he hb ht hA hnc hn2
      go_wp2_with fail
      refine Y.out.mono ?_
      rintro e w' ⟨rfl, rfl⟩
      go_wp2_with fail
      refine T.out.mono ?_
      rintro e w2 ⟨rfl, ht2⟩
      have HT2 := Lib.hid ht2
      clear ht2
      go_wp2_with fail
      refine (C.out w2).mono ?_
      rintro e w3 ⟨q, d, rfl, hd, hA3, hb3⟩
      have H3 := Lib.hid hA3
      have HB3 := Lib.hid hb3
      clear hA3 hb3
      go_wp2
      go_ret
      refine ⟨_, rfl, ?_⟩
      rw [H1.out, if_neg (by rw [Z.out]; simp), if_pos HK.out]
      refine ⟨⟨q, d, rfl, hd, H3.out⟩, HT2.out.1.turn (S := fun _ => False) (Turn.of_below HB3.out) (fun k hk => False.elim hk) (fun hk => hk), ?_⟩
      exact HT.out.trans (HT2.out.2.trans (Turn.of_below (S := fun k => k = g) HB3.out) (fun i hi => .inl hi)) (fun i hi => .inl hi)
theorem left_at (g : Nat) (p : Option Addr) (n c : Nat) (u : Value) (w : World) (h : Lies w g 61 #[.slice p n c, u]) :
    Calls Try.prog 28 #[.pointer (some ⟨g, 0, none⟩)] w fun e w' => e = .returned (.int .i64 (n : Int)) ∧ w = w' := by
  have c0 : w.cell? ⟨g, 0, none⟩ = some (.slice p n c) := h.cell 0
  clear h
  go_enter Try.func28, Try.ntmps28
  go_wp2
  go_ret
  exact ⟨rfl, rfl⟩
theorem left_any (g : Nat) (s : Nat × List Nat) (w : World) (h : PR w g s) :
    Calls Try.prog 28 #[.pointer (some ⟨g, 0, none⟩)] w fun e w' => e = .returned (.int .i64 ((s.2.length : Nat) : Int)) ∧ w = w' := by
  rcases h with ⟨he, hl, hb⟩ | ⟨he, p, n, c, hb, hnc, hA⟩
  · rw [hl]
    exact left_at g none 0 0 _ w hb
  · rw [hA.1]
    exact left_at g p n c _ w hb
set_option maxHeartbeats 1000000 in
theorem end_any (g : Nat) (s : Nat × List Nat) (w : World) (h : PR w g s) :
    Calls Try.prog 30 #[.pointer (some ⟨g, 0, none⟩)] w fun e w' => e = .returned (.int .i64 ((Oc.rdone s : Nat) : Int)) ∧ w = w' := by
  have N := Lib.hid (left_any g s w h)
  have E : Hid (Oc.rdone s = if 0 < s.2.length then 2 else s.1) := Lib.hid rfl
  have C : ∃ v, Lies w g 61 #[v, .int .i64 (s.1 : Int)] := by
    rcases h with ⟨he, hl, hb⟩ | ⟨he, p, n, c, hb, hnc, hA⟩
    · exact ⟨_, hb⟩
    · rw [he]
      exact ⟨_, hb⟩
  obtain ⟨v, hb⟩ := C
  have c1 : w.cell? ⟨g, 1, none⟩ = some (.int .i64 (s.1 : Int)) := hb.cell 1
  clear h hb
  generalize s.2.length = n at *
  generalize s.1 = u at *
  by_cases hn : 0 < n
  · have hn' : (0 : Int) < (n : Int) := by omega
    go_enter Try.func30, Try.ntmps30
    go_wp2_with fail
    refine N.out.mono ?_
    rintro e w' ⟨rfl, rfl⟩
    go_wp2
    go_ret
    exact ⟨by rw [E.out, if_pos hn]; rfl, rfl⟩
  · obtain rfl : n = 0 := by omega
    go_enter Try.func30, Try.ntmps30
    go_wp2_with fail
    refine N.out.mono ?_
    rintro e w' ⟨rfl, rfl⟩
    go_wp2
    go_ret
    exact ⟨by rw [E.out, if_neg hn]; rfl, rfl⟩
set_option maxHeartbeats 1000000 in
theorem newr_any (p : Option Addr) (n c : Nat) (l : List Nat) (w : World) (hn : n ≤ 1000000) (hA : At w p n l) :
    Calls Try.prog 19 #[.slice p n c] w fun e w' => ∃ g, e = .returned (.pointer (some ⟨g, 0, none⟩)) ∧ w.heap.size ≤ g ∧ PR w' g (0, l) ∧ Below w.heap.size w w' := by
  have C := Lib.hid (clone_any p n c l w hn hA)
  clear hA
  go_enter Try.func19, Try.ntmps19
  go_wp2_with fail
  refine C.out.mono ?_
  rintro e w1 ⟨q, d, rfl, hd, hA1, hb1⟩
  have HB := Lib.hid hb1
  have HA := Lib.hid hA1
  have hz := hb1.size
  clear hA1 hb1
  go_wp2
  go_ret
  refine ⟨w1.heap.size, rfl, hz, .inr ⟨rfl, q, n, d, Lies.new w1 61 _, hd, ?_⟩, HB.out.alloc hz _⟩
  exact HA.out.keep ((Below.refl _ w1).alloc (Nat.le_refl _) _)
theorem nil_int (w : World) : Calls Try.prog 22 #[.pointer none] w fun e w' => e = .returned (.int .i64 0) ∧ w = w' := by
  go_enter Try.func22, Try.ntmps22
  go_wp2_with fail
  refine (get_nil _ w).mono ?_
  rintro e w' ⟨rfl, rfl⟩
  go_wp2
  go_ret
  exact ⟨rfl, rfl⟩
theorem nil_bool (w : World) : Calls Try.prog 24 #[.pointer none] w fun e w' => e = .returned (.bool false) ∧ w = w' := by
  go_enter Try.func24, Try.ntmps24
  go_wp2_with fail
  refine (get_nil _ w).mono ?_
  rintro e w' ⟨rfl, rfl⟩
  go_wp2
  go_ret
  exact ⟨rfl, rfl⟩
theorem nil_get_run (w : World) : Calls Try.prog 26 #[.pointer none] w fun e w' => e = .returned (.slice none 0 0) ∧ w = w' := by
  go_enter Try.func26, Try.ntmps26
  go_wp2_with fail
  refine (get_nil _ w).mono ?_
  rintro e w' ⟨rfl, rfl⟩
  go_wp2_with fail
  refine (rworks_nil w).mono ?_
  rintro e w' ⟨rfl, rfl⟩
  go_wp2
  go_ret
  exact ⟨rfl, rfl⟩
theorem nil_left (w : World) : Calls Try.prog 28 #[.pointer none] w fun e w' => e = .returned (.int .i64 0) ∧ w = w' := by
  go_enter Try.func28, Try.ntmps28
  go_wp2
  go_ret
  exact ⟨rfl, rfl⟩
theorem nil_end (w : World) : Calls Try.prog 30 #[.pointer none] w fun e w' => e = .returned (.int .i64 1) ∧ w = w' := by
  go_enter Try.func30, Try.ntmps30
  go_wp2
  go_ret
  exact ⟨rfl, rfl⟩
end Go.Proofs.Ytakkkdmbghdhgaa
