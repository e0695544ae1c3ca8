/- Walks over the document's answer of layer 5: a frame's tenths, the frame of bytes. No condition but those written. -/
import Derived.Test.YtbnnijcjlafcpaaFr2
import Derived.Deep.RegionHeld3
namespace Go.Proofs.Ytbnnijcjlafcpaa
open Go.RowKit

namespace Fr
set_option maxRecDepth 100000 in
set_option maxHeartbeats 1000000 in
theorem rten_any (f : Frm) (w : World) (hb : f.bits < 18446744073709551616) :
    Calls Try.prog 10 #[val f] w fun e w' => e = .returned (.tuple #[.int .i64 (ten f).1, .int .i64 ((ten f).2 : Int)]) ∧ Below w.heap.size w w' := by
  have R := Lib.hid (fun W => rright_any f W hb)
  have O := Lib.hid (fun W => rof_all f.bits hb W)
  have X0 := Lib.hid (box_new w 24 f)
  have B0 := Lib.hid ((Below.refl w.heap.size w).alloc (Nat.le_refl _) (.cells #[.int .i64 f.zone, .int .i64 f.seq, .int .i64 f.minute, .bool f.door, .bool f.opn, .int .u64 (f.bits : Int)] 24))
  clear hb
  by_cases hok : okB f = true
  · by_cases hd : f.door = true
    · have E : Hid (ten f = (0, 1)) := Lib.hid (by simp [ten, hd])
      rw [hok] at R
      clear hok
      obtain ⟨z, s, m, d, o, b⟩ := f
      unfold val at *
      simp only at *
      subst hd
      go_enter Try.func10, Try.ntmps10
      go_wp2_with fail
      refine (R.out _).mono ?_
      rintro e w1 ⟨rfl, hb⟩
      obtain ⟨_, _, _, x3, _⟩ := X0.out.keep hb
      have B1 := Lib.hid (B0.out.trans (hb.mono B0.out.size))
      clear hb B0
      go_wp2
      go_ret2
      exact ⟨by rw [E.out]; rfl, B1.out⟩
    · have hd' : f.door = false := by simpa using hd
      have hr : Hf.rg f.bits ≤ Hf.infR := by
        simp only [okB, saidB, hd', Bool.and_eq_true, Bool.false_eq_true, if_false, decide_eq_true_eq] at hok
        exact hok.2.2
      have E : Hid (ten f = (Hf.tenths f.bits, 0)) := Lib.hid (by simp [ten, hd', hok])
      rw [if_pos hr, if_pos hr] at O
      rw [hok] at R
      clear hok hd hr
      obtain ⟨z, s, m, d, o, b⟩ := f
      unfold val at *
      simp only at *
      subst hd'
      go_enter Try.func10, Try.ntmps10
      go_wp2_with fail
      refine (R.out _).mono ?_
      rintro e w1 ⟨rfl, hb⟩
      obtain ⟨_, _, _, x3, _, x5⟩ := X0.out.keep hb
      have B1 := Lib.hid (B0.out.trans (hb.mono B0.out.size))
      clear hb B0
      go_wp2_with fail
      refine (O.out _).mono ?_
      rintro e w2 ⟨rfl, rfl⟩
      go_wp2
      go_ret2
      exact ⟨by rw [E.out]; rfl, B1.out⟩
  · have hok' : okB f = false := by simpa using hok
    have E : Hid (ten f = (0, 1)) := Lib.hid (by simp [ten, hok'])
    rw [hok'] at R
    clear hok hok'
    obtain ⟨z, s, m, d, o, b⟩ := f
    unfold val at *
    simp only at *
    go_enter Try.func10, Try.ntmps10
    go_wp2_with fail
    refine (R.out _).mono ?_
    rintro e w1 ⟨rfl, hb⟩
    have B1 := Lib.hid (B0.out.trans (hb.mono B0.out.size))
    clear hb B0
    go_wp2
    go_ret2
    exact ⟨by rw [E.out]; rfl, B1.out⟩
theorem below_fresh (w : World) (o : Obj) : Below w.heap.size w (w.alloc o) := alloc_below w o
set_option maxRecDepth 100000 in
set_option maxHeartbeats 1000000 in
theorem rdec_len (p : Option Addr) (n c : Nat) (b : List Nat) (w : World) (hA : At w p n b) (h : ¬ (n = 10 ∨ n = 17)) :
    Calls Try.prog 12 #[.slice p n c] w fun e w' => e = .returned (.tuple #[val (dec b).1, .int .i64 ((dec b).2 : Int)]) ∧ Below w.heap.size w w' := by
  have E : Hid (dec b = (zero, 2)) := Lib.hid (by unfold dec; rw [if_pos (by rw [hA.1]; exact h)])
  have t1 : ((n : Int) != 10) = true := by simp; omega
  have t2 : ((n : Int) != 17) = true := by simp; omega
  clear hA h
  go_enter Try.func12, Try.ntmps12
  go_wp2
  exact bodyPost_ret (v := .tuple #[val zero, .int .i64 2]) (by simp [results, Try.results12, go_sem, val, zero]) rfl ⟨by rw [E.out]; rfl, below_fresh w _⟩
set_option maxRecDepth 100000 in
set_option maxHeartbeats 1000000 in
theorem rdec_sum (p : Option Addr) (n c : Nat) (b : List Nat) (w : World) (hnc : n ≤ c) (hA : At w p n b) (h : n = 10 ∨ n = 17) (hg : Ck.goodB b = false) :
    Calls Try.prog 12 #[.slice p n c] w fun e w' => e = .returned (.tuple #[val (dec b).1, .int .i64 ((dec b).2 : Int)]) ∧ Below w.heap.size w w' := by
  have E : Hid (dec b = (zero, 3)) := Lib.hid (by unfold dec; rw [if_neg (show ¬ ¬ (b.length = 10 ∨ b.length = 17) by rw [hA.1]; exact fun x => x h), if_pos hg])
  have G := Lib.hid (fun W (hb : Below w.heap.size w W) => Ck.rgood_any p n c b W (by omega) hnc (hA.keep hb))
  rw [hg] at G
  have B0 := Lib.hid ((Below.refl w.heap.size w).alloc (Nat.le_refl _) (.cells #[.int .i64 0, .int .i64 0, .int .i64 0, .bool false, .bool false, .int .u64 0] 24))
  have hlt : w.heap.size < (w.alloc (.cells #[.int .i64 0, .int .i64 0, .int .i64 0, .bool false, .bool false, .int .u64 0] 24)).heap.size := by simp
  clear hA hg hnc
  rcases h with rfl | rfl
  all_goals
    go_enter Try.func12, Try.ntmps12
    go_wp2_with fail
    refine (G.out _ B0.out).mono ?_
    rintro e w' ⟨rfl, m, rfl⟩
    go_wp2
    refine bodyPost_ret (v := .tuple #[val zero, .int .i64 3]) (by simp [results, Try.results12, go_sem, val, zero]) rfl ⟨by rw [E.out]; rfl, ?_⟩
    iterate 6 refine Below.setCell ?_ (show w.heap.size ≤ _ from Nat.le_refl _) _
    first
      | exact below_drewN (alloc_below w _) m
      | exact (below_drewN (Below.refl _ w) m).alloc (Nat.le_refl _) _
/-- The parts of bytes that are read. -/
theorem At.part {w : World} {p : Option Addr} {n : Nat} {l : List Nat} (h : At w p n l) (k m : Nat) (hk : k + m ≤ n) (hm : 0 < m) : ∃ b o, p = some ⟨b, o, none⟩ ∧ At w (some ⟨b, o + k, none⟩) m ((l.drop k).take m) := by
  obtain ⟨b, o, rfl, _⟩ := h.2.2 (by omega)
  have h1 := (h.cut (k := k) (by omega)).take m (by omega)
  exact ⟨b, o, rfl, by simpa [add_none] using h1⟩
end Fr
end Go.Proofs.Ytbnnijcjlafcpaa
