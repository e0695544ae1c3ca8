/- Walks over the sums and the product of package sat and of the document's answer; no condition but those written. -/
import Derived.Test.YtgmjmkkhoibbcaaDoorSt1
import Derived.WalkMore
namespace Go.Proofs.YtgmjmkkhoibbcaaDoor
namespace St
open Go.RowKit

theorem add_nil (p : Option Addr) (c : Nat) (w : World) : Calls Tryd.prog 31 #[.slice p 0 c] w fun e w' => e = .returned (.int .i64 0) ∧ w = w' := by
  go_enter Tryd.func31, Tryd.ntmps31
  go_wp2
  go_loop [3, 8] (fun s i => i = .int .i64 0 ∧ s = .int .i64 0) (fun _ _ => 0)
  case atStart => exact ⟨rfl, rfl⟩
  case round =>
    obtain ⟨rfl, rfl⟩ := hrel
    go_wp2
    go_ret
    exact ⟨rfl, rfl⟩
theorem add_any (b off len cap : Nat) (zs : List Int) (w : World) (hz : len ≤ zs.length) (hbig : len ≤ 9223372036854775807) (hc : ∀ j, j < zs.length → w.cell? ⟨b, off + j, none⟩ = some (.int .i64 (zs.getD j 0))) :
    Calls Tryd.prog 31 #[.slice (some ⟨b, off, none⟩) len cap] w fun e w' => e = .returned (.int .i64 (St.cap (St.sum (zs.take len)))) ∧ w = w' := by
  have HC := Lib.hid hc
  clear hc
  go_enter Tryd.func31, Tryd.ntmps31
  go_wp2
  go_loop [3, 8] (fun s i => ∃ k : Nat, k ≤ len ∧ i = .int .i64 k ∧ s = .int .i64 (St.cap (St.sum (zs.take k)))) (fun _ i => len - (RowKit.intOf i).toNat)
  case atStart => exact ⟨0, Nat.zero_le _, rfl, rfl⟩
  case round =>
    obtain ⟨k, hk, rfl, rfl⟩ := hrel
    obtain ⟨c0, c1⟩ := St.cap_bd (St.sum_nn (zs.take k))
    by_cases hlt : k < len
    · have hcell := HC.out k (by omega)
      have HS := Lib.hid (St.step zs k (by omega))
      have F := fit_any (zs.getD k 0)
      obtain ⟨f0, f1⟩ := St.fit_bd (zs.getD k 0)
      generalize zs.getD k 0 = z at *
      generalize St.fit z = y at *
      generalize St.cap (St.sum (zs.take k)) = x at *
      have F' := Lib.hid F
      have P' := Lib.hid (plus_any x y c0 c1 f0 f1)
      clear F
      go_wp2_with fail
      refine (F'.out _).mono ?_
      rintro e w' ⟨rfl, rfl⟩
      go_wp2_with fail
      refine (P'.out _).mono ?_
      rintro e w' ⟨rfl, rfl⟩
      go_wp2
      go_round
      case rel => exact ⟨k + 1, by omega, by go_num, by rw [HS.out]⟩
      case measure => simp [RowKit.intOf]; omega
    · obtain rfl : k = len := by omega
      go_wp2
      go_ret
      exact ⟨rfl, rfl⟩
end St
end Go.Proofs.YtgmjmkkhoibbcaaDoor
