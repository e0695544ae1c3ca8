/- Walks over package check: the sum of bytes, whether bytes are good. No condition but those written. -/
import Derived.Test.YtklhapekfgcplaaBytes
import Derived.Test.YtklhapekfgcplaaCkNum
namespace Go.Proofs.Ytklhapekfgcplaa
open Go.RowKit

namespace Ck
theorem doubled_any (n : Nat) (hn : n < 65536) (w : World) : Calls Try.prog 47 #[.int .u16 (n : Int)] w fun e w' => e = .returned (.int .u16 (Ck.stp n : Nat)) ∧ w = w' := by
  by_cases h : 32768 ≤ n
  · have E := Lib.hid (Ck.stp_big h)
    have X : IntKind.u16.wrap ((n : Int) * 2) = ((2 * n % 65536 : Nat) : Int) := by rw [IntKind.wrap_u16]; omega
    have Y : bits BinOp.xor IntKind.u16 ((2 * n % 65536 : Nat) : Int) 4129 = ((2 * n % 65536 ^^^ 4129 : Nat) : Int) := u16_xor_nat _ 4129 (by omega) (by omega)
    have Z := Lib.hid (X ▸ Y)
    clear X Y
    go_enter Try.func47, Try.ntmps47
    go_wp2
    go_ret
    exact ⟨ret_int (by rw [E.out]; exact Z.out), rfl⟩
  · have E := Lib.hid (Ck.stp_small h)
    go_enter Try.func47, Try.ntmps47
    go_wp2
    go_ret
    exact ⟨ret_int (by rw [E.out]; omega), rfl⟩
theorem of_nil (p : Option Addr) (c : Nat) (w : World) : Calls Try.prog 36 #[.slice p 0 c] w fun e w' => e = .returned (.int .u16 65535) ∧ w = w' := by
  go_enter Try.func36, Try.ntmps36
  go_wp2
  go_loop [3, 8] (fun s i => i = .int .i64 0 ∧ s = .int .u16 65535) (fun _ _ => 0)
  case atStart => exact ⟨rfl, rfl⟩
  case round =>
    obtain ⟨rfl, rfl⟩ := hrel
    go_wp2
    go_ret
    exact ⟨rfl, rfl⟩
set_option maxHeartbeats 1000000 in
theorem of_some (b o n c : Nat) (l : List Nat) (w : World) (hn : l.length = n) (hbig : n ≤ 9223372036854775807) (hl : ∀ x ∈ l, x < 256)
    (hc : ∀ j, j < n → w.cell? ⟨b, o + j, none⟩ = some (.int .u8 ((l.getD j 0 : Nat) : Int))) :
    Calls Try.prog 36 #[.slice (some ⟨b, o, none⟩) n c] w fun e w' => e = .returned (.int .u16 ((Ck.crc 65535 l : Nat) : Int)) ∧ w = w' := by
  have HC := Lib.hid hc
  have HL := Lib.hid hl
  have HN := Lib.hid hn
  clear hc hl
  have hn' : n ≤ l.length := by omega
  clear hn
  go_enter Try.func36, Try.ntmps36
  go_wp2
  go_loop [3, 8] (fun s i => ∃ k : Nat, k ≤ n ∧ i = .int .i64 k ∧ s = .int .u16 ((Ck.crc 65535 (l.take k) : Nat) : Int)) (fun _ i => n - (RowKit.intOf i).toNat)
  case atStart => exact ⟨0, Nat.zero_le _, rfl, rfl⟩
  case round =>
    obtain ⟨k, hk, rfl, rfl⟩ := hrel
    have hs : Ck.crc 65535 (l.take k) < 65536 := Ck.crc_lt (by decide) (fun x hx => HL.out x (List.mem_of_mem_take hx))
    by_cases hlt : k < n
    · have hcell := HC.out k hlt
      have HS := Lib.hid (Ck.crc_take 65535 l k (by omega))
      have hx := getD_lt HL.out k
      generalize l.getD k 0 = x at *
      generalize Ck.crc 65535 (l.take k) = s at *
      have hv : s ^^^ 256 * x < 65536 := Ck.xor_lt hs (by omega)
      have F := Lib.hid (Ck.feed_eq s x)
      have Y : bits BinOp.xor IntKind.u16 (s : Int) ((x : Int) * 256) = ((s ^^^ 256 * x : Nat) : Int) := by
        rw [Int.mul_comm]; exact u16_xor_nat s (256 * x) (by omega) (by omega)
      generalize s ^^^ 256 * x = v at *
      go_wp2
      clear Y hcell
      go_loop [3, 17] (fun t i => ∃ m : Nat, m ≤ 8 ∧ i = .int .i64 m ∧ t = .int .u16 ((Ck.stps m v : Nat) : Int)) (fun _ i => 8 - (RowKit.intOf i).toNat)
      case atStart => exact ⟨0, by omega, rfl, by rw [Ck.stps_nil]⟩
      case round =>
        obtain ⟨m, hm, rfl, rfl⟩ := hrel
        by_cases hml : m < 8
        · have D := Lib.hid (doubled_any (Ck.stps m v) (Ck.stps_lt m hv))
          have M := Lib.hid (Ck.stps_more m v)
          generalize Ck.stps m v = t at *
          go_wp2_with fail
          refine (D.out _).mono ?_
          rintro e w' ⟨rfl, rfl⟩
          go_wp2
          go_round
          case rel => exact ⟨m + 1, by omega, by go_num, by rw [M.out]⟩
          case measure => simp [RowKit.intOf]; omega
        · obtain rfl : m = 8 := by omega
          go_wp2
          go_round
          case rel => exact ⟨k + 1, by omega, by go_num, by rw [HS.out, F.out]⟩
          case measure => simp [RowKit.intOf]; omega
    · obtain rfl : k = n := by omega
      go_wp2
      go_ret
      exact ⟨ret_int (by rw [List.take_of_length_le (by rw [HN.out]; omega)]), rfl⟩
/-- The sum of bytes: package check. -/
theorem of_any (p : Option Addr) (n c : Nat) (l : List Nat) (w : World) (hbig : n ≤ 9223372036854775807) (h : At w p n l) :
    Calls Try.prog 36 #[.slice p n c] w fun e w' => e = .returned (.int .u16 ((Ck.crc 65535 l : Nat) : Int)) ∧ w = w' := by
  obtain ⟨hl, hx, hc⟩ := h
  by_cases h0 : n = 0
  · subst h0
    obtain rfl : l = [] := List.eq_nil_of_length_eq_zero hl
    exact of_nil p c w
  · obtain ⟨b, o, rfl, hj⟩ := hc (by omega)
    exact of_some b o n c l w hl hbig hx hj
theorem or_byte (u v : Nat) (hu : u < 256) (hv : v < 256) : bits BinOp.or IntKind.u16 ((u : Int) * 256) (v : Int) = ((256 * u + v : Nat) : Int) := by
  have h := u16_or_nat (256 * u) v (by omega) (by omega)
  rw [Int.mul_comm]
  rw [show 256 * u + v = 256 * u ||| v from Nat.two_pow_add_eq_or_of_lt (i := 8) hv u]
  exact h
set_option maxRecDepth 100000 in
set_option maxHeartbeats 1000000 in
theorem good_any (p : Option Addr) (n c : Nat) (l : List Nat) (w : World) (hbig : n ≤ 9223372036854775807) (hnc : n ≤ c) (h : At w p n l) :
    Calls Try.prog 40 #[.slice p n c] w fun e w' => e = .returned (.bool (Ck.goodB l)) ∧ ∃ m, w' = w.drewN m := by
  by_cases h2 : n < 2
  · have E := Lib.hid (Ck.good_short (l := l) (by have := h.1; omega))
    clear h
    have hd : decide ((2 : Int) ≤ (n : Int)) = false := by rw [decide_eq_false_iff_not]; omega
    have hn : (n : Int) ≤ 1 := by omega
    go_enter Try.func40, Try.ntmps40
    go_wp2
    go_quiet (fail)
    go_wp2
    go_ret
    exact ⟨by rw [E.out]; rfl, _, rfl⟩
  · obtain ⟨m, rfl⟩ : ∃ m, n = m + 2 := ⟨n - 2, by omega⟩
    have E := Lib.hid (Ck.good_long h.1)
    have O := Lib.hid (of_any p m c (l.take m))
    have hx := h.2.1
    have ht := h.take m (by omega)
    obtain ⟨b, o, rfl, hj⟩ := h.2.2 (by omega)
    have c0 := hj m (by omega)
    have c1 := hj (m + 1) (by omega)
    have l0 := getD_lt hx m
    have l1 := getD_lt hx (m + 1)
    clear hj
    have HT := Lib.hid ht
    have HX := Lib.hid hx
    clear ht hx h
    generalize l.getD m 0 = u at *
    generalize l.getD (m + 1) 0 = v at *
    go_enter Try.func40, Try.ntmps40
    go_wp2
    go_quiet ((go_at_call 36; exact still (O.out _ (by omega) HT.out)))
    go_wp2
    go_ret
    exact ⟨ret_bool (by rw [E.out]; show ((_ : Int) == bits BinOp.or IntKind.u16 _ _) = _; rw [or_byte u v l0 l1]; exact eq_nat _ _), _, rfl⟩
theorem good_at (p : Option Addr) (n c : Nat) (l : List Nat) (g : Bool) (w : World) (hg : Ck.goodB l = g) (hn : n ≤ 1000000) (hnc : n ≤ c) (h : At w p n l) :
    Calls Try.prog 40 #[.slice p n c] w fun e w' => e = .returned (.bool g) ∧ Below w.heap.size w w' :=
  (good_any p n c l w (by omega) hnc h).mono fun e w' ⟨he, k, hw⟩ => ⟨by rw [he, hg], by rw [hw]; exact below_drewN (Below.refl _ w) k⟩
theorem of_at (p : Option Addr) (n c : Nat) (l : List Nat) (s : Nat) (w : World) (hs : Ck.crc 65535 l = s) (hn : n ≤ 1000000) (h : At w p n l) :
    Calls Try.prog 36 #[.slice p n c] w fun e w' => e = .returned (.int .u16 (s : Int)) ∧ Below w.heap.size w w' :=
  (of_any p n c l w (by omega) h).mono fun e w' ⟨he, hw⟩ => ⟨by rw [he, hs], by rw [← hw]; exact Below.refl _ w⟩
end Ck
end Go.Proofs.Ytklhapekfgcplaa
