/- The walk over the law of lists that may be a book's. Conditions: the contracts of package order; what comes in reads as orders. -/
import Derived.Test.YtpkniomjohjbiaaOrL1
import Derived.Test.YtpkniomjohjbiaaOrTwo
namespace Go.Proofs.Ytpkniomjohjbiaa
open Go.RowKit

namespace Or
set_option maxRecDepth 100000 in
set_option maxHeartbeats 8000000 in
theorem olists_long (I : Face) (p : Option Addr) (n c : Nat) (w : World) (hn : 200 < n) (hn2 : n ≤ 9223372036854775807) :
    Calls Try.prog 4 #[.slice p n c] w fun e w' => e = .returned (.bool true) ∧ Below w.heap.size w w' := by
  have AL := Lib.hid (fun W => oalive_any I W)
  have t0 : decide (((n : Nat) : Int) > 200) = true := by simp; omega
  have hn3 : ((n : Nat) : Int) ≤ 9223372036854775807 := by omega
  clear hn hn2
  go_enter Try.func4, Try.ntmps4
  go_wp2_with fail
  refine (AL.out _).mono ?_
  rintro e w2 ⟨rfl, hb⟩
  have B2 := Lib.hid hb
  clear hb
  go_wp2
  go_ret
  exact ⟨rfl, B2.out⟩
set_option maxRecDepth 100000 in
set_option maxHeartbeats 8000000 in
theorem olists_short (I : Face) (p : Option Addr) (n c : Nat) (l : List Od) (w : World) (hA : Rw 4 ocells w p n l) (hn : n ≤ 200) (hnc : n ≤ c) :
    Calls Try.prog 4 #[.slice p n c] w fun e w' => e = .returned (.bool true) ∧ Below w.heap.size w w' := by
  have AL := Lib.hid (fun W => oalive_any I W)
  have H := Lib.hid (fun W (hW : Below w.heap.size w W) => hA.keep ocells_len hW)
  have R1 := Lib.hid (fun W (hW : Below w.heap.size w W) => r16right_any p n c l W (H.out W hW) (by omega))
  have R2 := Lib.hid (fun W (hW : Below w.heap.size w W) => I.right p n c l W (H.out W hW) hnc (by omega))
  have B0 := Lib.hid (Below.refl w.heap.size w)
  have t0 : decide (((n : Nat) : Int) > 200) = false := by simp; omega
  have hn3 : ((n : Nat) : Int) ≤ 200 := by omega
  cases hr : rightB l with
  | false =>
    have O := Lib.hid (fun W (hW : Below w.heap.size w W) => I.of_no p n c l W (H.out W hW) hnc (by omega) hr)
    rw [hr] at R1 R2
    clear hA hn hnc hr H
    go_enter Try.func4, Try.ntmps4
    go_wp2_with fail
    refine (R1.out _ B0.out).mono ?_
    rintro e w2 ⟨rfl, hb⟩
    have B2 := Lib.hid (B0.out.trans (hb.mono B0.out.size))
    clear hb R1 B0
    go_wp2_with fail
    refine (O.out _ B2.out).mono ?_
    rintro e w3 ⟨rfl, hb⟩
    have B3 := Lib.hid (B2.out.trans (hb.mono B2.out.size))
    clear hb O B2
    go_wp2_with fail
    refine (R2.out _ B3.out).mono ?_
    rintro e w4 ⟨rfl, hb⟩
    have B4 := Lib.hid (B3.out.trans (hb.mono B3.out.size))
    clear hb R2 B3
    go_wp2_with fail
    refine (AL.out _).mono ?_
    rintro e w5 ⟨rfl, hb⟩
    have B5 := Lib.hid (B4.out.trans (hb.mono B4.out.size))
    clear hb AL B4
    go_wp2
    go_ret
    exact ⟨rfl, B5.out⟩
  | true =>
    have O := Lib.hid (fun W (hW : Below w.heap.size w W) => I.of_yes p n c l W (H.out W hW) hnc (by omega) hr)
    have G := Lib.hid (rightB_iff.1 hr)
    rw [hr] at R1 R2
    clear hA hn hnc hr
    go_enter Try.func4, Try.ntmps4
    go_wp2_with fail
    refine (R1.out _ B0.out).mono ?_
    rintro e w2 ⟨rfl, hb⟩
    have B2 := Lib.hid (B0.out.trans (hb.mono B0.out.size))
    clear hb R1 B0
    go_wp2_with fail
    refine (O.out _ B2.out).mono ?_
    rintro e w3 ⟨h, F, rfl, hd, hb⟩
    have B3 := Lib.hid (B2.out.trans (hb.mono B2.out.size))
    have K3 := Lib.hid (show Bk I w2 w3 h l from ⟨G.out, hb, F, hd⟩)
    clear hb hd O B2
    go_wp2_with fail
    refine (R2.out _ B3.out).mono ?_
    rintro e w4 ⟨rfl, hb⟩
    have B4 := Lib.hid (B3.out.trans (hb.mono B3.out.size))
    have K4 := Lib.hid (K3.out.below hb)
    clear hb R2 B3 K3
    go_wp2_with fail
    refine (bk_orders K4.out).mono ?_
    rintro e w5 ⟨v, rfl, ho, hb⟩
    obtain ⟨q, d, rfl⟩ := own_slice ho
    have B5 := Lib.hid (B4.out.trans (hb.mono B4.out.size))
    have S5 := Lib.hid (r16same_any q p l.length n d c l l w5 (by have := G.out.len; omega) (own_od ho rfl) (H.out _ B5.out))
    clear hb ho K4 B4 H G
    go_wp2_with fail
    refine S5.out.mono ?_
    rintro e w6 ⟨he, m, rfl⟩
    have B6 := Lib.hid (show Below w.heap.size w (w5.drewN m) from ⟨B5.out.os, B5.out.tape, B5.out.output, B5.out.size, B5.out.block⟩)
    simp only [decide_true] at he
    subst he
    clear S5 B5
    go_wp2_with fail
    refine (AL.out _).mono ?_
    rintro e w7 ⟨rfl, hb⟩
    have B7 := Lib.hid (B6.out.trans (hb.mono B6.out.size))
    clear hb AL B6
    go_wp2
    go_ret
    exact ⟨rfl, B7.out⟩
end Or
end Go.Proofs.Ytpkniomjohjbiaa
