/- Walks for there and back: what each read answers over bytes that were written, and over those with one less. -/
import Derived.Test.YtakkkdmbghdhgaaBk
import Derived.Test.YtakkkdmbghdhgaaW10
import Derived.Test.YtakkkdmbghdhgaaSame
namespace Go.Proofs.Ytakkkdmbghdhgaa
open Go.RowKit

theorem get_back (g n k : Nat) (R : List Nat) (w : World) (h1 : 1 ≤ k) (h8 : k ≤ 8) (hn : n < 256 ^ k) (h : PR w g (0, Oc.be k n ++ R)) :
    Calls Try.prog 20 #[.pointer (some ⟨g, 0, none⟩), .int .i64 (k : Int)] w fun e w' => e = .returned (.int .u64 (n : Int)) ∧ Took w g (0, R) w' := by
  have c := get_any g _ (k : Int) w h
  rwa [Oc.rnum_back h1 h8 hn] at c
theorem get_cut (g n k : Nat) (b R : List Nat) (w : World) (h1 : 1 ≤ k) (h8 : k ≤ 8) (hn : n < 256 ^ k) (hb : b ≠ []) (h : PR w g (Oc.sst b (Oc.be k n ++ R))) :
    Calls Try.prog 20 #[.pointer (some ⟨g, 0, none⟩), .int .i64 (k : Int)] w fun e w' => ∃ u : Nat, e = .returned (.int .u64 (u : Int)) ∧ Took w g (Oc.sst b R) w' := by
  have c := get_any g _ (k : Int) w h
  rw [Oc.rnum_short h1 h8 hn hb] at c
  exact c.mono fun e w' ⟨he, ht⟩ => ⟨_, he, ht⟩
theorem int_back (g n : Nat) (R : List Nat) (w : World) (hn : n < 256 ^ 8) (h : PR w g (0, Oc.be 8 n ++ R)) :
    Calls Try.prog 22 #[.pointer (some ⟨g, 0, none⟩)] w fun e w' => e = .returned (.int .i64 (wrap64 (n : Int))) ∧ Took w g (0, R) w' := by
  have c := gint_any g _ w h
  rwa [show (8 : Int) = ((8 : Nat) : Int) from rfl, Oc.rnum_back (by decide) (by decide) hn] at c
theorem int_cut (g n : Nat) (b R : List Nat) (w : World) (hn : n < 256 ^ 8) (hb : b ≠ []) (h : PR w g (Oc.sst b (Oc.be 8 n ++ R))) :
    Calls Try.prog 22 #[.pointer (some ⟨g, 0, none⟩)] w fun e w' => ∃ u : Int, e = .returned (.int .i64 u) ∧ Took w g (Oc.sst b R) w' := by
  have c := gint_any g _ w h
  rw [show (8 : Int) = ((8 : Nat) : Int) from rfl, Oc.rnum_short (by decide) (by decide) hn hb] at c
  exact c.mono fun e w' ⟨he, ht⟩ => ⟨_, he, ht⟩
theorem bool_back (g n : Nat) (R : List Nat) (w : World) (h : PR w g (0, Oc.be 1 (n % 2) ++ R)) :
    Calls Try.prog 24 #[.pointer (some ⟨g, 0, none⟩)] w fun e w' => e = .returned (.bool (decide (n % 2 = 1))) ∧ Took w g (0, R) w' := by
  have c := gbool_any g _ w h
  rwa [Oc.rbool_back] at c
theorem bool_cut (g n : Nat) (b R : List Nat) (w : World) (hb : b ≠ []) (h : PR w g (Oc.sst b (Oc.be 1 (n % 2) ++ R))) :
    Calls Try.prog 24 #[.pointer (some ⟨g, 0, none⟩)] w fun e w' => ∃ u : Bool, e = .returned (.bool u) ∧ Took w g (Oc.sst b R) w' := by
  have c := gbool_any g _ w h
  rw [Oc.rbool_short n hb] at c
  exact c.mono fun e w' ⟨he, ht⟩ => ⟨_, he, ht⟩
theorem run_back (g : Nat) (r R : List Nat) (w : World) (hr : r.length < 256 ^ 4) (h : PR w g (0, (Oc.be 4 r.length ++ r) ++ R)) (hl : ((Oc.be 4 r.length ++ r) ++ R).length ≤ 1000000) :
    Calls Try.prog 26 #[.pointer (some ⟨g, 0, none⟩)] w fun e w' => ∃ v, e = .returned v ∧ Out w' v r ∧ Took w g (0, R) w' := by
  have c := grun_any g _ w h hl
  rwa [Oc.rrun_back hr] at c
theorem run_cut (g : Nat) (b r R : List Nat) (w : World) (hr : r.length < 256 ^ 4) (hb : b ≠ []) (h : PR w g (Oc.sst b ((Oc.be 4 r.length ++ r) ++ R))) (hl : (Oc.sst b ((Oc.be 4 r.length ++ r) ++ R)).2.length ≤ 1000000) :
    Calls Try.prog 26 #[.pointer (some ⟨g, 0, none⟩)] w fun e w' => ∃ q n d, e = .returned (.slice q n d) ∧ Took w g (Oc.sst b R) w' := by
  have c := grun_any g _ w h hl
  rw [Oc.rrun_short hr hb] at c
  exact c.mono fun e w' ⟨v, he, ⟨q, d, hv, _⟩, ht⟩ => ⟨q, _, d, he.trans (congrArg _ hv), ht⟩
theorem sst_len (b R : List Nat) : (Oc.sst b R).2.length ≤ R.length := by
  unfold Oc.sst
  split
  · exact Nat.zero_le _
  · split
    · exact Nat.zero_le _
    · simp

/-- Three readers, side by side. -/
def R3 (W wr : World) (g1 g2 g3 : Nat) (s1 s2 s3 : Nat × List Nat) : Prop :=
  PR wr g1 s1 ∧ PR wr g2 s2 ∧ PR wr g3 s3 ∧ (g1 ≠ g2 ∧ g1 ≠ g3 ∧ g2 ≠ g3) ∧ (W.heap.size ≤ g1 ∧ W.heap.size ≤ g2 ∧ W.heap.size ≤ g3) ∧ Below W.heap.size W wr
section
variable {W wr w1 : World} {g1 g2 g3 : Nat} {s s1 s2 s3 : Nat × List Nat}
theorem R3.p1 (h : R3 W wr g1 g2 g3 s1 s2 s3) : PR wr g1 s1 := h.1
theorem R3.p2 (h : R3 W wr g1 g2 g3 s1 s2 s3) : PR wr g2 s2 := h.2.1
theorem R3.p3 (h : R3 W wr g1 g2 g3 s1 s2 s3) : PR wr g3 s3 := h.2.2.1
theorem R3.bel (h : R3 W wr g1 g2 g3 s1 s2 s3) : Below W.heap.size W wr := h.2.2.2.2.2
theorem R3.below (h : R3 W wr g1 g2 g3 s1 s2 s3) (hb : Below wr.heap.size wr w1) : R3 W w1 g1 g2 g3 s1 s2 s3 :=
  ⟨h.p1.below hb, h.p2.below hb, h.p3.below hb, h.2.2.2.1, h.2.2.2.2.1, h.bel.trans (hb.mono h.bel.size)⟩
theorem R3.drew (h : R3 W wr g1 g2 g3 s1 s2 s3) : R3 W wr.drew g1 g2 g3 s1 s2 s3 := h.below (Below.refl _ wr).drew
theorem R3.one (h : R3 W wr g1 g2 g3 s1 s2 s3) (ht : Took wr g1 s w1) : R3 W w1 g1 g2 g3 s s2 s3 :=
  ⟨ht.1, h.p2.turn ht.2 h.p1.plain (Ne.symm h.2.2.2.1.1), h.p3.turn ht.2 h.p1.plain (Ne.symm h.2.2.2.1.2.1), h.2.2.2.1, h.2.2.2.2.1, ht.2.below h.bel h.bel.size (fun i hi => by rw [hi]; exact h.2.2.2.2.1.1)⟩
theorem R3.two (h : R3 W wr g1 g2 g3 s1 s2 s3) (ht : Took wr g2 s w1) : R3 W w1 g1 g2 g3 s1 s s3 :=
  ⟨h.p1.turn ht.2 h.p2.plain h.2.2.2.1.1, ht.1, h.p3.turn ht.2 h.p2.plain (Ne.symm h.2.2.2.1.2.2), h.2.2.2.1, h.2.2.2.2.1, ht.2.below h.bel h.bel.size (fun i hi => by rw [hi]; exact h.2.2.2.2.1.2.1)⟩
theorem R3.three (h : R3 W wr g1 g2 g3 s1 s2 s3) (ht : Took wr g3 s w1) : R3 W w1 g1 g2 g3 s1 s2 s :=
  ⟨h.p1.turn ht.2 h.p3.plain h.2.2.2.1.2.1, h.p2.turn ht.2 h.p3.plain h.2.2.2.1.2.2, ht.1, h.2.2.2.1, h.2.2.2.2.1, ht.2.below h.bel h.bel.size (fun i hi => by rw [hi]; exact h.2.2.2.2.1.2.2)⟩
end
end Go.Proofs.Ytakkkdmbghdhgaa
