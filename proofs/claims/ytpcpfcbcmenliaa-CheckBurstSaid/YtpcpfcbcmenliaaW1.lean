/- Walks over one more bit of a sum, over the bits of two numbers that differ, and over the sum of bytes, in package check and in the document's answer; no condition but those written. -/
import Derived.Test.YtpcpfcbcmenliaaChecked
import Derived.Test.YtpcpfcbcmenliaaNum
import Derived.WalkKit
import Derived.WalkLawsBesides
import Derived.LoopTactic
import Derived.KernelRfl
import Derived.Lib.Hide
import Derived.BigQuiet
import Derived.Deep.QuietTactic
import Derived.Below
namespace Go.Proofs.Ytpcpfcbcmenliaa
open Go.RowKit

theorem ret_int {k : IntKind} {a b : Int} (h : a = b) : Ending.returned (.int k a) = .returned (.int k b) := by rw [h]

namespace Ck
theorem stp_big {n : Nat} (h : 32768 ≤ n) : stp n = (2 * n % 65536) ^^^ 4129 := by unfold stp; rw [if_pos h]
theorem stp_small {n : Nat} (h : ¬ 32768 ≤ n) : stp n = 2 * n % 65536 := by unfold stp; rw [if_neg h]
theorem stps_more (k s : Nat) : stps (k + 1) s = stp (stps k s) := by rw [stps_add k 1, stps_succ, stps_nil]
theorem crc_take (s : Nat) (l : List Nat) (k : Nat) (h : k < l.length) : crc s (l.take (k + 1)) = feed (crc s (l.take k)) (l.getD k 0) := by
  rw [List.take_succ_eq_append_getElem h, crc_append, crc_cons, crc_nil, List.getD_eq_getElem?_getD, List.getElem?_eq_getElem h]
  rfl
end Ck

theorem doubled_any (n : Nat) (hn : n < 65536) (w : World) : Calls Try.prog 16 #[.int .u16 (n : Int)] w fun e w' => e = .returned (.int .u16 (Ck.stp n : Nat)) ∧ w = w' := by
  by_cases h : 32768 ≤ n
  · have E := Lib.hid (Ck.stp_big h)
    have X : IntKind.u16.wrap ((n : Int) * 2) = ((2 * n % 65536 : Nat) : Int) := by rw [IntKind.wrap_u16]; omega
    have Y : bits BinOp.xor IntKind.u16 ((2 * n % 65536 : Nat) : Int) 4129 = ((2 * n % 65536 ^^^ 4129 : Nat) : Int) := u16_xor_nat _ 4129 (by omega) (by omega)
    have Z := Lib.hid (X ▸ Y)
    clear X Y
    go_enter Try.func16, Try.ntmps16
    go_wp2
    go_ret
    exact ⟨ret_int (by rw [E.out]; exact Z.out), rfl⟩
  · have E := Lib.hid (Ck.stp_small h)
    go_enter Try.func16, Try.ntmps16
    go_wp2
    go_ret
    exact ⟨ret_int (by rw [E.out]; omega), rfl⟩

set_option maxHeartbeats 1000000 in
theorem turn_any (a b : Nat) (ha : a < 65536) (hb : b < 65536) (w : World) :
    Calls Try.prog 17 #[.int .i64 (a : Int), .int .i64 (b : Int)] w fun e w' => e = .returned (.int .i64 ((a ^^^ b : Nat) : Int)) ∧ ∃ m, w' = w.drewN m := by
  have hx := Lib.hid (Ck.turn_all a b ha hb)
  go_enter Try.func17, Try.ntmps17
  go_wp2
  go_loopw [5, 6, 7] (fun o t i wr => ∃ k : Nat, k ≤ 16 ∧ i = .int .i64 k ∧ t = .int .i64 ((2 ^ k : Nat) : Int) ∧ o = .int .i64 (((a ^^^ b) % 2 ^ k : Nat) : Int) ∧ ∃ m, wr = w.drewN m) (fun _ _ i _ => 16 - (intOf i).toNat)
  case atStart => exact ⟨0, by omega, rfl, rfl, by simp [Nat.mod_one], 0, rfl⟩
  case round =>
    obtain ⟨k, hk, rfl, rfl, rfl, m, rfl⟩ := hrel
    by_cases hlt : k < 16
    · have hp : 0 < 2 ^ k := Nat.two_pow_pos k
      have hq : 2 ^ k < 65536 := Nat.pow_lt_pow_right (a := 2) (by omega) hlt
      have ho : (a ^^^ b) % 2 ^ k < 2 ^ k := Nat.mod_lt _ hp
      have T := Lib.hid (Ck.turn_step a b k)
      have PP := Lib.hid (Nat.pow_succ 2 k)
      generalize hO : (a ^^^ b) % 2 ^ k = o at *
      clear hO
      generalize hQ : 2 ^ k = q at *
      clear hQ
      have a0 : 0 ≤ (a : Int) / (q : Int) := Int.ediv_nonneg (by omega) (by omega)
      have b0 : 0 ≤ (b : Int) / (q : Int) := Int.ediv_nonneg (by omega) (by omega)
      have a1 : (a : Int) / (q : Int) ≤ (a : Int) := Int.ediv_le_self _ (by omega)
      have b1 : (b : Int) / (q : Int) ≤ (b : Int) := Int.ediv_le_self _ (by omega)
      have q0 : (0 : Int) < (q : Int) := by omega
      by_cases hs : a / q % 2 = b / q % 2
      · have hd : ((a : Int) / (q : Int) % 2 != (b : Int) / (q : Int) % 2) = false := by
          rw [bne_eq_false_iff_eq]; exact_mod_cast hs
        go_wp2
        go_quiet (fail)
        go_wp2
        go_roundw
        case rel => exact ⟨k + 1, by omega, by go_num, by rw [PP.out]; go_num, by rw [T.out, if_pos hs]; rfl, _, rfl⟩
        case measure => simp [intOf]; omega
      · have hd : ((a : Int) / (q : Int) % 2 != (b : Int) / (q : Int) % 2) = true := by
          rw [bne_iff_ne]; intro e; exact hs (by exact_mod_cast e)
        go_wp2
        go_quiet (fail)
        go_wp2
        go_roundw
        case rel => exact ⟨k + 1, by omega, by go_num, by rw [PP.out]; go_num, by rw [T.out, if_neg hs]; go_num, _, rfl⟩
        case measure => simp [intOf]; omega
    · obtain rfl : k = 16 := by omega
      go_wp2
      go_ret
      exact ⟨ret_int (by rw [hx.out]), m, rfl⟩

/-- A slice that reads as a list of bytes, nil let in. -/
def At (w : World) (p : Option Addr) (n : Nat) (l : List Nat) : Prop :=
  l.length = n ∧ (∀ x ∈ l, x < 256) ∧ (0 < n → ∃ b o, p = some ⟨b, o, none⟩ ∧ ∀ j, j < n → w.cell? ⟨b, o + j, none⟩ = some (.int .u8 ((l.getD j 0 : Nat) : Int)))
theorem getD_lt {l : List Nat} (h : ∀ x ∈ l, x < 256) (k : Nat) : l.getD k 0 < 256 := by
  by_cases hk : k < l.length
  · rw [List.getD_eq_getElem?_getD, List.getElem?_eq_getElem hk]
    exact h _ (List.getElem_mem hk)
  · rw [List.getD_eq_getElem?_getD, List.getElem?_eq_none (by omega)]
    decide
theorem At.take {w : World} {p : Option Addr} {n : Nat} {l : List Nat} (h : At w p n l) (m : Nat) (hm : m ≤ n) : At w p m (l.take m) := by
  obtain ⟨hl, hb, hc⟩ := h
  refine ⟨by rw [List.length_take]; omega, fun x hx => hb x (List.mem_of_mem_take hx), fun h0 => ?_⟩
  obtain ⟨b, o, hp, hj⟩ := hc (by omega)
  refine ⟨b, o, hp, fun j hjm => ?_⟩
  rw [hj j (by omega), List.getD_eq_getElem?_getD, List.getD_eq_getElem?_getD, List.getElem?_take_of_lt hjm]
theorem At.keep {w w' : World} {p : Option Addr} {n : Nat} {l : List Nat} (h : At w p n l) (hb : Below w.heap.size w w') : At w' p n l := by
  obtain ⟨hl, hx, hc⟩ := h
  refine ⟨hl, hx, fun h0 => ?_⟩
  obtain ⟨b, o, hp, hj⟩ := hc h0
  refine ⟨b, o, hp, fun j hjm => ?_⟩
  have hlt : b < w.heap.size := World.block_lt_of_cell? w _ (hj j hjm)
  exact (hb.cell (p := ⟨b, o + j, none⟩) hlt).trans (hj j hjm)
theorem At.drewN {w : World} {p : Option Addr} {n : Nat} {l : List Nat} (h : At w p n l) (m : Nat) : At (w.drewN m) p n l := h

theorem of_nil (p : Option Addr) (c : Nat) (w : World) : Calls Try.prog 11 #[.slice p 0 c] w fun e w' => e = .returned (.int .u16 65535) ∧ w = w' := by
  go_enter Try.func11, Try.ntmps11
  go_wp2
  go_loop [3, 8] (fun s i => i = .int .i64 0 ∧ s = .int .u16 65535) (fun _ _ => 0)
  case atStart => exact ⟨rfl, rfl⟩
  case round =>
    obtain ⟨rfl, rfl⟩ := hrel
    go_wp2
    go_ret
    exact ⟨rfl, rfl⟩

set_option maxHeartbeats 1000000 in
theorem of_some (b o n c : Nat) (l : List Nat) (w : World) (hn : l.length = n) (hbig : n ≤ 9223372036854775807) (hl : ∀ x ∈ l, x < 256)
    (hc : ∀ j, j < n → w.cell? ⟨b, o + j, none⟩ = some (.int .u8 ((l.getD j 0 : Nat) : Int))) :
    Calls Try.prog 11 #[.slice (some ⟨b, o, none⟩) n c] w fun e w' => e = .returned (.int .u16 ((Ck.crc 65535 l : Nat) : Int)) ∧ w = w' := by
  have HC := Lib.hid hc
  have HL := Lib.hid hl
  have HN := Lib.hid hn
  clear hc hl
  have hn' : n ≤ l.length := by omega
  clear hn
  go_enter Try.func11, Try.ntmps11
  go_wp2
  go_loop [3, 8] (fun s i => ∃ k : Nat, k ≤ n ∧ i = .int .i64 k ∧ s = .int .u16 ((Ck.crc 65535 (l.take k) : Nat) : Int)) (fun _ i => n - (intOf i).toNat)
  case atStart => exact ⟨0, Nat.zero_le _, rfl, rfl⟩
  case round =>
    obtain ⟨k, hk, rfl, rfl⟩ := hrel
    have hs : Ck.crc 65535 (l.take k) < 65536 := Ck.crc_lt (by decide) (fun x hx => HL.out x (List.mem_of_mem_take hx))
    by_cases hlt : k < n
    · have hcell := HC.out k hlt
      have HS := Lib.hid (Ck.crc_take 65535 l k (by omega))
      have hx := getD_lt HL.out k
      generalize l.getD k 0 = x at *
      generalize Ck.crc 65535 (l.take k) = s at *
      have hv : s ^^^ 256 * x < 65536 := Ck.xor_lt hs (by omega)
      have F := Lib.hid (Ck.feed_eq s x)
      have Y : bits BinOp.xor IntKind.u16 (s : Int) ((x : Int) * 256) = ((s ^^^ 256 * x : Nat) : Int) := by
        rw [Int.mul_comm]; exact u16_xor_nat s (256 * x) (by omega) (by omega)
      generalize s ^^^ 256 * x = v at *
      go_wp2
      clear Y hcell
      go_loop [3, 17] (fun t i => ∃ m : Nat, m ≤ 8 ∧ i = .int .i64 m ∧ t = .int .u16 ((Ck.stps m v : Nat) : Int)) (fun _ i => 8 - (intOf i).toNat)
      case atStart => exact ⟨0, by omega, rfl, by rw [Ck.stps_nil]⟩
      case round =>
        obtain ⟨m, hm, rfl, rfl⟩ := hrel
        by_cases hml : m < 8
        · have D := Lib.hid (doubled_any (Ck.stps m v) (Ck.stps_lt m hv))
          have M := Lib.hid (Ck.stps_more m v)
          generalize Ck.stps m v = t at *
          go_wp2_with fail
          refine (D.out _).mono ?_
          rintro e w' ⟨rfl, rfl⟩
          go_wp2
          go_round
          case rel => exact ⟨m + 1, by omega, by go_num, by rw [M.out]⟩
          case measure => simp [intOf]; omega
        · obtain rfl : m = 8 := by omega
          go_wp2
          go_round
          case rel => exact ⟨k + 1, by omega, by go_num, by rw [HS.out, F.out]⟩
          case measure => simp [intOf]; omega
    · obtain rfl : k = n := by omega
      go_wp2
      go_ret
      exact ⟨ret_int (by rw [List.take_of_length_le (by rw [HN.out]; omega)]), rfl⟩

/-- The sum of bytes: package check. -/
theorem of_any (p : Option Addr) (n c : Nat) (l : List Nat) (w : World) (hbig : n ≤ 9223372036854775807) (h : At w p n l) :
    Calls Try.prog 11 #[.slice p n c] w fun e w' => e = .returned (.int .u16 ((Ck.crc 65535 l : Nat) : Int)) ∧ w = w' := by
  obtain ⟨hl, hx, hc⟩ := h
  by_cases h0 : n = 0
  · subst h0
    obtain rfl : l = [] := List.eq_nil_of_length_eq_zero hl
    exact of_nil p c w
  · obtain ⟨b, o, rfl, hj⟩ := hc (by omega)
    exact of_some b o n c l w hl hbig hx hj

theorem rof_nil (p : Option Addr) (c : Nat) (w : World) : Calls Try.prog 12 #[.slice p 0 c] w fun e w' => e = .returned (.int .i64 65535) ∧ ∃ m, w' = w.drewN m := by
  go_enter Try.func12, Try.ntmps12
  go_wp2
  go_loop [3, 4] (fun s i => i = .int .i64 0 ∧ s = .int .i64 65535) (fun _ _ => 0)
  case atStart => exact ⟨rfl, rfl⟩
  case round =>
    obtain ⟨rfl, rfl⟩ := hrel
    go_wp2
    go_ret
    exact ⟨rfl, 0, rfl⟩

set_option maxRecDepth 100000 in
set_option maxHeartbeats 1000000 in
theorem rof_some (b o n c : Nat) (l : List Nat) (w : World) (hn : l.length = n) (hbig : n ≤ 9223372036854775807) (hl : ∀ x ∈ l, x < 256)
    (hc : ∀ j, j < n → w.cell? ⟨b, o + j, none⟩ = some (.int .u8 ((l.getD j 0 : Nat) : Int))) :
    Calls Try.prog 12 #[.slice (some ⟨b, o, none⟩) n c] w fun e w' => e = .returned (.int .i64 ((Ck.crc 65535 l : Nat) : Int)) ∧ ∃ m, w' = w.drewN m := by
  have HC := Lib.hid hc
  have HL := Lib.hid hl
  have HN := Lib.hid hn
  clear hc hl
  have hn' : n ≤ l.length := by omega
  clear hn
  go_enter Try.func12, Try.ntmps12
  go_wp2
  go_loopw [3, 4] (fun s i wr => ∃ k : Nat, k ≤ n ∧ i = .int .i64 k ∧ s = .int .i64 ((Ck.crc 65535 (l.take k) : Nat) : Int) ∧ ∃ m, wr = w.drewN m) (fun _ i _ => n - (intOf i).toNat)
  case atStart => exact ⟨0, Nat.zero_le _, rfl, rfl, 0, rfl⟩
  case round =>
    obtain ⟨k, hk, rfl, rfl, d, rfl⟩ := hrel
    have hs : Ck.crc 65535 (l.take k) < 65536 := Ck.crc_lt (by decide) (fun x hx => HL.out x (List.mem_of_mem_take hx))
    by_cases hlt : k < n
    · have hcell := HC.out k hlt
      have HS := Lib.hid (Ck.crc_take 65535 l k (by omega))
      have hx := getD_lt HL.out k
      generalize l.getD k 0 = x at *
      generalize Ck.crc 65535 (l.take k) = s at *
      have hv : s ^^^ 256 * x < 65536 := Ck.xor_lt hs (by omega)
      have F := Lib.hid (Ck.feed_eq s x)
      have T := Lib.hid (turn_any s (256 * x) hs (by omega))
      have X : ((256 * x : Nat) : Int) = 256 * (x : Int) := by omega
      have T2 := Lib.hid (X ▸ T.out)
      clear T X
      generalize s ^^^ 256 * x = v at *
      go_wp2_with fail
      refine (T2.out _).mono ?_
      rintro e w' ⟨rfl, m1, rfl⟩
      go_wp2
      clear hcell
      go_loopw [3, 5] (fun t i wr => ∃ j : Nat, j ≤ 8 ∧ i = .int .i64 j ∧ t = .int .i64 ((Ck.stps j v : Nat) : Int) ∧ ∃ m, wr = w.drewN m) (fun _ i _ => 8 - (intOf i).toNat)
      case atStart => exact ⟨0, by omega, rfl, by rw [Ck.stps_nil], _, rfl⟩
      case round =>
        obtain ⟨j, hj, rfl, rfl, m2, rfl⟩ := hrel
        by_cases hjl : j < 8
        · have M := Lib.hid (Ck.stps_more j v)
          have ht := Ck.stps_lt j hv
          generalize Ck.stps j v = t at *
          by_cases hb : 32768 ≤ t
          · have D := Lib.hid (turn_any (2 * t % 65536) 4129 (by omega) (by omega))
            have B := Lib.hid (Ck.stp_big hb)
            have X : ((2 * t % 65536 : Nat) : Int) = 2 * (t : Int) % 65536 := by omega
            have D2 := Lib.hid (X ▸ D.out)
            have h1 : (32768 : Int) ≤ (t : Int) := by omega
            have h2 : (t : Int) ≤ 65535 := by omega
            clear D X hb ht hv hs hx
            go_wp2_with fail
            refine (D2.out _).mono ?_
            rintro e w' ⟨rfl, m3, rfl⟩
            go_wp2
            go_roundw
            case rel => exact ⟨j + 1, by omega, by go_num, by rw [M.out, B.out], _, rfl⟩
            case measure => simp [intOf]; omega
          · have B := Lib.hid (Ck.stp_small hb)

            have hd : decide ((32768 : Int) ≤ (t : Int)) = false := by rw [decide_eq_false_iff_not]; omega
            have h2 : (t : Int) ≤ 40000 := by omega
            clear hb ht hv hs hx
            go_wp2
            go_roundw
            case rel => exact ⟨j + 1, by omega, by go_num, by rw [M.out, B.out]; go_num, _, rfl⟩
            case measure => simp [intOf]; omega
        · obtain rfl : j = 8 := by omega
          go_wp2
          go_roundw
          case rel => exact ⟨k + 1, by omega, by go_num, by rw [HS.out, F.out], _, rfl⟩
          case measure => simp [intOf]; omega
    · obtain rfl : k = n := by omega
      go_wp2
      go_ret
      exact ⟨ret_int (by rw [List.take_of_length_le (by rw [HN.out]; omega)]), d, rfl⟩

/-- The sum of bytes: the document's answer. -/
theorem rof_any (p : Option Addr) (n c : Nat) (l : List Nat) (w : World) (hbig : n ≤ 9223372036854775807) (h : At w p n l) :
    Calls Try.prog 12 #[.slice p n c] w fun e w' => e = .returned (.int .i64 ((Ck.crc 65535 l : Nat) : Int)) ∧ ∃ m, w' = w.drewN m := by
  obtain ⟨hl, hx, hc⟩ := h
  by_cases h0 : n = 0
  · subst h0
    obtain rfl : l = [] := List.eq_nil_of_length_eq_zero hl
    exact rof_nil p c w
  · obtain ⟨b, o, rfl, hj⟩ := hc (by omega)
    exact rof_some b o n c l w hl hbig hx hj
end Go.Proofs.Ytpcpfcbcmenliaa
