/- Walks over the document's reader of layer 4 (hoarfrostref04). No condition but those written. -/
import Derived.Test.YtklhapekfgcplaaOb3
namespace Go.Proofs.Ytklhapekfgcplaa
open Go.RowKit

namespace Ob
set_option maxHeartbeats 1000000 in
theorem value_any (p : Option Addr) (n c : Nat) (l : List Nat) (w : World) (h8 : n ≤ 8) (hA : At w p n l) :
    Calls Try.prog 43 #[.slice p n c] w fun e w' => e = .returned (.int .u64 ((Oc.val l : Nat) : Int)) ∧ w = w' := by
  have HA := Lib.hid hA
  have K : Hid (∀ j, j < n → Oc.val (l.take (j + 1)) = 256 * Oc.val (l.take j) + l.getD j 0 ∧ Oc.val (l.take j) < 72057594037927936 ∧ l.getD j 0 < 256) := by
    refine Lib.hid fun j hj => ⟨Oc.val_take (by rw [hA.1]; exact hj), ?_, getD_lt hA.2.1 j⟩
    exact Nat.lt_of_lt_of_le (Oc.val_take_lt hA.2.1 (show j ≤ 7 by omega)) (by decide)
  clear hA
  go_enter Try.func43, Try.ntmps43
  go_wp2
  go_loop [3, 4] (fun u i => ∃ j : Nat, j ≤ n ∧ i = .int .i64 (j : Int) ∧ u = .int .u64 ((Oc.val (l.take j) : Nat) : Int)) (fun _ i => n - (RowKit.intOf i).toNat)
  case atStart => exact ⟨0, Nat.zero_le _, rfl, rfl⟩
  case round =>
    obtain ⟨j, hj, rfl, rfl⟩ := hrel
    by_cases hlt : j < n
    · obtain ⟨k1, k2, k3⟩ := K.out j hlt
      obtain ⟨b, o, rfl, hc⟩ := HA.out.2.2 (by omega)
      have c1 := hc j hlt
      have K1 := Lib.hid k1
      have k2' : ((Oc.val (l.take j) : Nat) : Int) < 72057594037927936 := by omega
      clear k1 hc k2
      generalize Oc.val (l.take j) = u at *
      generalize l.getD j 0 = x at *
      go_wp2
      go_round
      case rel => exact ⟨j + 1, by omega, by go_num, by rw [K1.out]; go_num⟩
      case measure => simp [RowKit.intOf]; omega
    · obtain rfl : j = n := by omega
      have E : Hid (l.take j = l) := Lib.hid (List.take_of_length_le (by rw [HA.out.1]; exact Nat.le_refl _))
      go_wp2
      go_ret
      exact ⟨by rw [E.out]; rfl, rfl⟩
theorem rbool_len (s : Nat × List Nat) : (Oc.rbool s).2.2.length ≤ s.2.length := by
  unfold Oc.rbool
  simp only
  split
  · exact Oc.rnum_len s 1
  · exact Nat.zero_le _
theorem rrun_len (s : Nat × List Nat) : (Oc.rrun s).2.2.length ≤ s.2.length := by
  unfold Oc.rrun
  have h := Oc.rnum_len s 4
  split
  · exact h
  · split
    · exact Nat.zero_le _
    · simp only [List.length_drop]
      omega
end Ob
end Go.Proofs.Ytklhapekfgcplaa
