/- Walks over the document's answer for layer 3: the sum of bytes, whether they are good, bytes that are sealed. No condition but those written. -/
import Derived.Test.YtklhapekfgcplaaBytes
import Derived.Test.YtklhapekfgcplaaCkNum
namespace Go.Proofs.Ytklhapekfgcplaa
open Go.RowKit

namespace Ck
set_option maxHeartbeats 1000000 in
theorem turn_any (a b : Nat) (ha : a < 65536) (hb : b < 65536) (w : World) :
    Calls Try.prog 50 #[.int .i64 (a : Int), .int .i64 (b : Int)] w fun e w' => e = .returned (.int .i64 ((a ^^^ b : Nat) : Int)) ∧ ∃ m, w' = w.drewN m := by
  have hx := Lib.hid (Ck.turn_all a b ha hb)
  go_enter Try.func50, Try.ntmps50
  go_wp2
  go_loopw [5, 6, 7] (fun o t i wr => ∃ k : Nat, k ≤ 16 ∧ i = .int .i64 k ∧ t = .int .i64 ((2 ^ k : Nat) : Int) ∧ o = .int .i64 (((a ^^^ b) % 2 ^ k : Nat) : Int) ∧ ∃ m, wr = w.drewN m) (fun _ _ i _ => 16 - (RowKit.intOf i).toNat)
  case atStart => exact ⟨0, by omega, rfl, rfl, by simp [Nat.mod_one], 0, rfl⟩
  case round =>
    obtain ⟨k, hk, rfl, rfl, rfl, m, rfl⟩ := hrel
    by_cases hlt : k < 16
    · have hp : 0 < 2 ^ k := Nat.two_pow_pos k
      have hq : 2 ^ k < 65536 := Nat.pow_lt_pow_right (a := 2) (by omega) hlt
      have ho : (a ^^^ b) % 2 ^ k < 2 ^ k := Nat.mod_lt _ hp
      have T := Lib.hid (Ck.turn_step a b k)
      have PP := Lib.hid (Nat.pow_succ 2 k)
      generalize hO : (a ^^^ b) % 2 ^ k = o at *
      clear hO
      generalize hQ : 2 ^ k = q at *
      clear hQ
      have a0 : 0 ≤ (a : Int) / (q : Int) := Int.ediv_nonneg (by omega) (by omega)
      have b0 : 0 ≤ (b : Int) / (q : Int) := Int.ediv_nonneg (by omega) (by omega)
      have a1 : (a : Int) / (q : Int) ≤ (a : Int) := Int.ediv_le_self _ (by omega)
      have b1 : (b : Int) / (q : Int) ≤ (b : Int) := Int.ediv_le_self _ (by omega)
      have q0 : (0 : Int) < (q : Int) := by omega
      by_cases hs : a / q % 2 = b / q % 2
      · have hd : ((a : Int) / (q : Int) % 2 != (b : Int) / (q : Int) % 2) = false := by
          rw [bne_eq_false_iff_eq]; exact_mod_cast hs
        go_wp2
        go_quiet (fail)
        go_wp2
        go_roundw
        case rel => exact ⟨k + 1, by omega, by go_num, by rw [PP.out]; go_num, by rw [T.out, if_pos hs]; rfl, _, rfl⟩
        case measure => simp [RowKit.intOf]; omega
      · have hd : ((a : Int) / (q : Int) % 2 != (b : Int) / (q : Int) % 2) = true := by
          rw [bne_iff_ne]; intro e; exact hs (by exact_mod_cast e)
        go_wp2
        go_quiet (fail)
        go_wp2
        go_roundw
        case rel => exact ⟨k + 1, by omega, by go_num, by rw [PP.out]; go_num, by rw [T.out, if_neg hs]; go_num, _, rfl⟩
        case measure => simp [RowKit.intOf]; omega
    · obtain rfl : k = 16 := by omega
      go_wp2
      go_ret
      exact ⟨ret_int (by rw [hx.out]), m, rfl⟩
theorem rof_nil (p : Option Addr) (c : Nat) (w : World) : Calls Try.prog 39 #[.slice p 0 c] w fun e w' => e = .returned (.int .i64 65535) ∧ ∃ m, w' = w.drewN m := by
  go_enter Try.func39, Try.ntmps39
  go_wp2
  go_loop [3, 4] (fun s i => i = .int .i64 0 ∧ s = .int .i64 65535) (fun _ _ => 0)
  case atStart => exact ⟨rfl, rfl⟩
  case round =>
    obtain ⟨rfl, rfl⟩ := hrel
    go_wp2
    go_ret
    exact ⟨rfl, 0, rfl⟩
set_option maxRecDepth 100000 in
set_option maxHeartbeats 1000000 in
theorem rof_some (b o n c : Nat) (l : List Nat) (w : World) (hn : l.length = n) (hbig : n ≤ 9223372036854775807) (hl : ∀ x ∈ l, x < 256)
    (hc : ∀ j, j < n → w.cell? ⟨b, o + j, none⟩ = some (.int .u8 ((l.getD j 0 : Nat) : Int))) :
    Calls Try.prog 39 #[.slice (some ⟨b, o, none⟩) n c] w fun e w' => e = .returned (.int .i64 ((Ck.crc 65535 l : Nat) : Int)) ∧ ∃ m, w' = w.drewN m := by
  have HC := Lib.hid hc
  have HL := Lib.hid hl
  have HN := Lib.hid hn
  clear hc hl
  have hn' : n ≤ l.length := by omega
  clear hn
  go_enter Try.func39, Try.ntmps39
  go_wp2
  go_loopw [3, 4] (fun s i wr => ∃ k : Nat, k ≤ n ∧ i = .int .i64 k ∧ s = .int .i64 ((Ck.crc 65535 (l.take k) : Nat) : Int) ∧ ∃ m, wr = w.drewN m) (fun _ i _ => n - (RowKit.intOf i).toNat)
  case atStart => exact ⟨0, Nat.zero_le _, rfl, rfl, 0, rfl⟩
  case round =>
    obtain ⟨k, hk, rfl, rfl, d, rfl⟩ := hrel
    have hs : Ck.crc 65535 (l.take k) < 65536 := Ck.crc_lt (by decide) (fun x hx => HL.out x (List.mem_of_mem_take hx))
    by_cases hlt : k < n
    · have hcell := HC.out k hlt
      have HS := Lib.hid (Ck.crc_take 65535 l k (by omega))
      have hx := getD_lt HL.out k
      generalize l.getD k 0 = x at *
      generalize Ck.crc 65535 (l.take k) = s at *
      have hv : s ^^^ 256 * x < 65536 := Ck.xor_lt hs (by omega)
      have F := Lib.hid (Ck.feed_eq s x)
      have T := Lib.hid (turn_any s (256 * x) hs (by omega))
      have X : ((256 * x : Nat) : Int) = 256 * (x : Int) := by omega
      have T2 := Lib.hid (X ▸ T.out)
      clear T X
      generalize s ^^^ 256 * x = v at *
      go_wp2_with fail
      refine (T2.out _).mono ?_
      rintro e w' ⟨rfl, m1, rfl⟩
      go_wp2
      clear hcell
      go_loopw [3, 5] (fun t i wr => ∃ j : Nat, j ≤ 8 ∧ i = .int .i64 j ∧ t = .int .i64 ((Ck.stps j v : Nat) : Int) ∧ ∃ m, wr = w.drewN m) (fun _ i _ => 8 - (RowKit.intOf i).toNat)
      case atStart => exact ⟨0, by omega, rfl, by rw [Ck.stps_nil], _, rfl⟩
      case round =>
        obtain ⟨j, hj, rfl, rfl, m2, rfl⟩ := hrel
        by_cases hjl : j < 8
        · have M := Lib.hid (Ck.stps_more j v)
          have ht := Ck.stps_lt j hv
          generalize Ck.stps j v = t at *
          by_cases hb : 32768 ≤ t
          · have D := Lib.hid (turn_any (2 * t % 65536) 4129 (by omega) (by omega))
            have B := Lib.hid (Ck.stp_big hb)
            have X : ((2 * t % 65536 : Nat) : Int) = 2 * (t : Int) % 65536 := by omega
            have D2 := Lib.hid (X ▸ D.out)
            have h1 : (32768 : Int) ≤ (t : Int) := by omega
            have h2 : (t : Int) ≤ 65535 := by omega
            clear D X hb ht hv hs hx
            go_wp2_with fail
            refine (D2.out _).mono ?_
            rintro e w' ⟨rfl, m3, rfl⟩
            go_wp2
            go_roundw
            case rel => exact ⟨j + 1, by omega, by go_num, by rw [M.out, B.out], _, rfl⟩
            case measure => simp [RowKit.intOf]; omega
          · have B := Lib.hid (Ck.stp_small hb)

            have hd : decide ((32768 : Int) ≤ (t : Int)) = false := by rw [decide_eq_false_iff_not]; omega
            have h2 : (t : Int) ≤ 40000 := by omega
            clear hb ht hv hs hx
            go_wp2
            go_roundw
            case rel => exact ⟨j + 1, by omega, by go_num, by rw [M.out, B.out]; go_num, _, rfl⟩
            case measure => simp [RowKit.intOf]; omega
        · obtain rfl : j = 8 := by omega
          go_wp2
          go_roundw
          case rel => exact ⟨k + 1, by omega, by go_num, by rw [HS.out, F.out], _, rfl⟩
          case measure => simp [RowKit.intOf]; omega
    · obtain rfl : k = n := by omega
      go_wp2
      go_ret
      exact ⟨ret_int (by rw [List.take_of_length_le (by rw [HN.out]; omega)]), d, rfl⟩
/-- The sum of bytes: the document's answer. -/
theorem rof_any (p : Option Addr) (n c : Nat) (l : List Nat) (w : World) (hbig : n ≤ 9223372036854775807) (h : At w p n l) :
    Calls Try.prog 39 #[.slice p n c] w fun e w' => e = .returned (.int .i64 ((Ck.crc 65535 l : Nat) : Int)) ∧ ∃ m, w' = w.drewN m := by
  obtain ⟨hl, hx, hc⟩ := h
  by_cases h0 : n = 0
  · subst h0
    obtain rfl : l = [] := List.eq_nil_of_length_eq_zero hl
    exact rof_nil p c w
  · obtain ⟨b, o, rfl, hj⟩ := hc (by omega)
    exact rof_some b o n c l w hl hbig hx hj
set_option maxRecDepth 100000 in
set_option maxHeartbeats 1000000 in
theorem rgood_any (p : Option Addr) (n c : Nat) (l : List Nat) (w : World) (hbig : n ≤ 9223372036854775807) (hnc : n ≤ c) (h : At w p n l) :
    Calls Try.prog 31 #[.slice p n c] w fun e w' => e = .returned (.bool (Ck.goodB l)) ∧ ∃ m, w' = w.drewN m := by
  by_cases h2 : n < 2
  · have E := Lib.hid (Ck.good_short (l := l) (by have := h.1; omega))
    clear h
    have hd : decide ((n : Int) < 2) = true := by rw [decide_eq_true_iff]; omega
    have hn : (n : Int) ≤ 1 := by omega
    go_enter Try.func31, Try.ntmps31
    go_wp2
    go_ret
    exact ⟨by rw [E.out]; rfl, 0, rfl⟩
  · obtain ⟨m, rfl⟩ : ∃ m, n = m + 2 := ⟨n - 2, by omega⟩
    have E := Lib.hid (Ck.good_long h.1)
    have O := Lib.hid (rof_any p m c (l.take m))
    have hx := h.2.1
    have ht := h.take m (by omega)
    obtain ⟨b, o, rfl, hj⟩ := h.2.2 (by omega)
    have c0 := hj m (by omega)
    have c1 := hj (m + 1) (by omega)
    have l0 := getD_lt hx m
    have l1 := getD_lt hx (m + 1)
    clear hj
    have HT := Lib.hid ht
    have HX := Lib.hid hx
    clear ht hx h
    generalize l.getD m 0 = u at *
    generalize l.getD (m + 1) 0 = v at *
    have hd : decide ((m : Int) < 0) = false := by rw [decide_eq_false_iff_not]; omega
    have hm : (m : Int) + 2 ≤ (c : Int) := by omega
    go_enter Try.func31, Try.ntmps31
    go_wp2
    go_quiet ((go_at_call 39; exact still2 (O.out _ (by omega) HT.out)))
    go_wp2
    go_ret
    exact ⟨ret_bool (by rw [E.out]; show ((_ : Int) == 256 * (u : Int) + (v : Int)) = _; exact eq_nat _ (256 * u + v)), _, rfl⟩
set_option maxRecDepth 100000 in
set_option maxHeartbeats 1000000 in
theorem rseal_any (p : Option Addr) (n c : Nat) (l : List Nat) (w : World) (hn : n ≤ 1000000) (h : At w p n l) :
    Calls Try.prog 28 #[.slice p n c] w fun e w' => ∃ q d, e = .returned (.slice q (n + 2) d) ∧ n + 2 ≤ d ∧ At w' q (n + 2) (tight l) ∧ Below w.heap.size w w' := by
  have hx := h.2.1
  have hc : Ck.crc 65535 l < 65536 := Ck.crc_lt (by decide) hx
  have O := Lib.hid (rof_any p n c l w (by omega) h)
  have HT := Lib.hid (tight_eq l)
  have HL := Lib.hid (tight_lt hx)
  have HX := Lib.hid hx
  have HA := Lib.hid h
  clear hx h
  have q1 : (Ck.crc 65535 l : Int) / 256 = ((Ck.crc 65535 l / 256 : Nat) : Int) := by omega
  have q2 : (Ck.crc 65535 l : Int) % 256 = ((Ck.crc 65535 l % 256 : Nat) : Int) := by omega
  have r1 : Ck.crc 65535 l / 256 < 256 := by omega
  have r2 : Ck.crc 65535 l % 256 < 256 := by omega
  generalize Ck.crc 65535 l / 256 = u at *
  generalize Ck.crc 65535 l % 256 = v at *
  generalize Ck.crc 65535 l = s at *
  go_enter Try.func28, Try.ntmps28
  go_wp2_with fail
  refine O.out.mono ?_
  rintro e w1 ⟨rfl, k, rfl⟩
  have O0 : ((w.drewN k).alloc (.cells #[] 5)).ownsRow w.heap.size 5 1 (.slice (some ⟨w.heap.size, 0, none⟩) 0 0) 0 [] := World.ownsRow_made (w.drewN k) #[] 0 (Nat.le_refl _) (Nat.zero_le _) rfl
  have B0 : Below w.heap.size w ((w.drewN k).alloc (.cells #[] 5)) := (below_drewN (Below.refl _ w) k).alloc (Nat.le_refl _) _
  have A0 := HA.out.keep B0
  have O0' := Lib.hid O0
  have B0' := Lib.hid B0
  have A0' := Lib.hid A0
  clear O0 B0 A0
  go_wp2_with (first
    | (at_builtin
       refine wpList_app rfl (.tmp 6) (.tmp 7) rfl w.heap.size _ 0 [] rfl O0'.out p n c l rfl A0'.out (by omega) B0'.out.size ?_
       intro v1 w1 hown1 hg1 hat1
       have B1 := Lib.hid (B0'.out.grown hg1 B0'.out.size (fun k hk => (O0'.out.lt k hk).1))
       clear hg1 hat1)
    | (at_builtin
       refine wpList_app rfl (.tmp 8) (.tmp 15) rfl w.heap.size v1 (0 + n) ([] ++ bys l) rfl (hown1.alloc _) (some ⟨w1.heap.size, 0, none⟩) 2 2 [u, v] rfl (at_pair w1 u v r1 r2) (by omega) (Nat.le_trans B1.out.size (size_alloc _ _)) ?_
       intro v2 w2 hown2 hg2 hat2))
  go_ret
  have B2 : Below w.heap.size w w2 := (B1.out.alloc B1.out.size _).grown hg2 (Nat.le_trans B1.out.size (size_alloc _ _)) (fun k hk => (hown1.lt k hk).1)
  have e : [] ++ bys l ++ bys [u, v] = bys (tight l) := by rw [HT.out, bys_append]; rfl
  rw [e, Nat.zero_add] at hown2
  obtain ⟨q, d, hv, hd, hA⟩ := at_own (by rw [tight_length]; have := HA.out.1; omega) HL.out hown2
  exact ⟨q, d, by rw [← hv]; rfl, hd, hA, B2⟩
theorem rgood_at (p : Option Addr) (n c : Nat) (l : List Nat) (g : Bool) (w : World) (hg : Ck.goodB l = g) (hn : n ≤ 1000000) (hnc : n ≤ c) (h : At w p n l) :
    Calls Try.prog 31 #[.slice p n c] w fun e w' => e = .returned (.bool g) ∧ Below w.heap.size w w' :=
  (rgood_any p n c l w (by omega) hnc h).mono fun e w' ⟨he, k, hw⟩ => ⟨by rw [he, hg], by rw [hw]; exact below_drewN (Below.refl _ w) k⟩
theorem rof_at (p : Option Addr) (n c : Nat) (l : List Nat) (s : Nat) (w : World) (hs : Ck.crc 65535 l = s) (hn : n ≤ 1000000) (h : At w p n l) :
    Calls Try.prog 39 #[.slice p n c] w fun e w' => e = .returned (.int .i64 (s : Int)) ∧ Below w.heap.size w w' :=
  (rof_any p n c l w (by omega) h).mono fun e w' ⟨he, k, hw⟩ => ⟨by rw [he, hs], by rw [hw]; exact below_drewN (Below.refl _ w) k⟩
end Ck
end Go.Proofs.Ytklhapekfgcplaa
