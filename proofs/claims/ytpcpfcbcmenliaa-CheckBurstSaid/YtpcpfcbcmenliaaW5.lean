/- The walk over the law of a burst: bytes that are sealed are good, and with bits turned within 16 in a row they are not. Condition: the list's cells hold bytes. -/
import Derived.Test.YtpcpfcbcmenliaaW4
import Derived.Deep.AppendLies
namespace Go.Proofs.Ytpcpfcbcmenliaa
open Go.RowKit

namespace Ck
theorem crc_tight {l : List Nat} (hl : ∀ x ∈ l, x < 256) : crc 65535 (tight l) = 0 := by
  have hc : crc 65535 l < 65536 := crc_lt (by decide) hl
  rw [tight_eq, crc_good hl (by omega) (by omega)]
  omega
theorem split_two {l : List Nat} {m : Nat} (h : l.length = m + 2) : l = l.take m ++ [l.getD m 0, l.getD (m + 1) 0] := by
  have h1 := (List.take_append_drop m l).symm
  have h2 : l.drop m = [l.getD m 0, l.getD (m + 1) 0] := by
    rw [List.drop_eq_getElem_cons (by omega), List.drop_eq_getElem_cons (by omega), List.drop_eq_nil_of_le (by omega)]
    simp only [List.getD_eq_getElem?_getD, List.getElem?_eq_getElem (show m < l.length by omega), List.getElem?_eq_getElem (show m + 1 < l.length by omega), Option.getD_some]
  rwa [h2] at h1
theorem good_none {l : List Nat} {m : Nat} (h : l.length = m + 2) (hl : ∀ x ∈ l, x < 256) : goodB l = decide (crc 65535 l = 0) := by
  have e := split_two h
  have h1 : ∀ x ∈ l.take m, x < 256 := fun x hx => hl x (List.mem_of_mem_take hx)
  have h2 := getD_lt hl m
  have h3 := getD_lt hl (m + 1)
  have key := crc_good h1 h2 h3
  rw [← e] at key
  rw [good_long h, Bool.eq_iff_iff, decide_eq_true_iff, decide_eq_true_iff]
  exact key.symm

/-- What is known of sealed bytes of which the first k places of a burst are done: Q tells the bits that were turned. -/
def Off (n place k Q : Nat) (t : List Nat) : Prop :=
  t.length = n + 2 ∧ (∀ x ∈ t, x < 256) ∧ Q < 2 ^ k ∧ crc 65535 t = stps (8 * (n + 2) - place) (Q * 2 ^ (16 - k))
theorem off_start (n place : Nat) {l : List Nat} (hn : l.length = n) (hl : ∀ x ∈ l, x < 256) : Off n place 0 0 (tight l) :=
  ⟨by rw [tight_length, hn], tight_lt hl, by decide, by rw [crc_tight hl, Nat.zero_mul, stps_zero]⟩
theorem off_skip {n place k Q : Nat} {t : List Nat} (h : Off n place k Q t) (hk : k < 16) : Off n place (k + 1) (2 * Q) t := by
  obtain ⟨h1, h2, h3, h4⟩ := h
  refine ⟨h1, h2, by rw [Nat.pow_succ]; omega, ?_⟩
  rw [h4]
  congr 1
  rw [show 16 - k = 16 - (k + 1) + 1 by omega, Nat.pow_succ, Nat.mul_comm 2 Q, Nat.mul_assoc, Nat.mul_comm 2]
theorem one_more (Q e : Nat) : (Q * 2 ^ (e + 1)) ^^^ 2 ^ e = (2 * Q + 1) * 2 ^ e := by
  have h1 : Q * 2 ^ (e + 1) = (2 * Q) * 2 ^ e := by rw [Nat.pow_succ, Nat.mul_comm 2 Q, Nat.mul_assoc, Nat.mul_comm 2]
  have h2 : (2 * Q) ^^^ 1 = 2 * Q + 1 := by
    apply Nat.eq_of_testBit_eq
    intro i
    cases i with
    | zero => simp
    | succ i =>
      rw [Nat.testBit_xor, Nat.testBit_succ, Nat.testBit_succ, Nat.testBit_succ]
      have a1 : 2 * Q / 2 = Q := by omega
      have a2 : (2 * Q + 1) / 2 = Q := by omega
      have a3 : 1 / 2 = 0 := rfl
      rw [a1, a2, a3]
      simp
  rw [h1, ← h2, ← Nat.shiftLeft_eq, ← Nat.shiftLeft_eq, Nat.shiftLeft_xor_distrib, Nat.shiftLeft_eq 1, Nat.one_mul]
theorem off_turn {n place k Q : Nat} {t : List Nat} (h : Off n place k Q t) (hk : k < 16) (hp : place + 16 ≤ 8 * (n + 2)) :
    Off n place (k + 1) (2 * Q + 1) (t.set ((place + k) / 8) (t.getD ((place + k) / 8) 0 ^^^ 2 ^ (7 - (place + k) % 8))) := by
  obtain ⟨h1, h2, h3, h4⟩ := h
  have hr : (place + k) % 8 < 8 := Nat.mod_lt _ (by decide)
  have e7 : 2 ^ (7 - (place + k) % 8) = 128 / 2 ^ ((place + k) % 8) := by
    have H : ∀ r : Fin 8, 2 ^ (7 - r.1) = 128 / 2 ^ r.1 := by decide +kernel
    exact H ⟨_, hr⟩
  have hb : 2 ^ (7 - (place + k) % 8) < 256 := by rw [e7]; exact Nat.lt_of_le_of_lt (Nat.div_le_self _ _) (by decide)
  refine ⟨by rw [List.length_set, h1], fun x hx => ?_, by rw [Nat.pow_succ]; omega, ?_⟩
  · rcases List.mem_or_eq_of_mem_set hx with hx | rfl
    · exact h2 x hx
    · exact Nat.xor_lt_two_pow (n := 8) (getD_lt h2 _) hb
  · have hq : 32768 / 2 ^ k = 2 ^ (15 - k) := by
      have H : ∀ k : Fin 16, 32768 / 2 ^ k.1 = 2 ^ (15 - k.1) := by decide +kernel
      exact H ⟨k, hk⟩
    have hQ : Q * 2 ^ (16 - k) < 65536 := by
      have e : 2 ^ k * 2 ^ (16 - k) = 65536 := by rw [← Nat.pow_add, show k + (16 - k) = 16 by omega]
      rw [← e]
      exact Nat.mul_lt_mul_of_pos_right h3 (Nat.two_pow_pos _)
    have hlt : 2 ^ (15 - k) < 65536 := by
      have H : ∀ k : Fin 16, 2 ^ (15 - k.1) < 65536 := by decide +kernel
      exact H ⟨k, hk⟩
    rw [e7, crc_bit (by decide) h2 hk (by omega), h4, h1, hq, ← stps_xor _ hQ hlt]
    congr 1
    rw [show 16 - k = (15 - k) + 1 by omega, one_more, show 16 - (k + 1) = 15 - k by omega]
theorem off_end {n place Q : Nat} {t : List Nat} (h : Off n place 16 Q t) : goodB t = decide (Q = 0) := by
  obtain ⟨h1, h2, h3, h4⟩ := h
  rw [good_none h1 h2, Bool.eq_iff_iff, decide_eq_true_iff, decide_eq_true_iff, h4]
  constructor
  · intro h0
    have := stps_none _ (by omega) h0
    omega
  · rintro rfl
    rw [Nat.zero_mul, stps_zero]
end Ck

theorem made_none (w : World) : (w.alloc (.cells #[] 5)).ownsRow w.heap.size 5 1 (.slice (some ⟨w.heap.size, 0, none⟩) 0 0) 0 [] := World.ownsRow_made w #[] 0 (Nat.le_refl _) (Nat.zero_le _) rfl

theorem place_of (a n : Nat) : ∃ place : Nat, (a : Int) % (8 * ((n : Int) + 2) - 15) = (place : Int) ∧ place + 16 ≤ 8 * (n + 2) := by
  have h0 := Int.emod_nonneg (a : Int) (show 8 * ((n : Int) + 2) - 15 ≠ 0 by omega)
  have h1 := Int.emod_lt_of_pos (a : Int) (show 0 < 8 * ((n : Int) + 2) - 15 by omega)
  exact ⟨((a : Int) % (8 * ((n : Int) + 2) - 15)).toNat, (Int.toNat_of_nonneg h0).symm, by omega⟩

theorem half_of (y : Nat) (h : y < 65536) : ∃ y2 : Nat, (y : Int) / 2 = (y2 : Int) ∧ y2 < 65536 := ⟨y / 2, by omega, by omega⟩
theorem pow_small (m : Nat) (h : m < 7) : 2 ^ m ≤ 64 := by
  have H : ∀ m : Fin 7, 2 ^ m.1 ≤ 64 := by decide
  exact H ⟨m, h⟩
theorem pow_byte (m : Nat) (h : m < 8) : 0 < 2 ^ m ∧ 2 ^ m ≤ 128 := by
  have H : ∀ m : Fin 8, 0 < 2 ^ m.1 ∧ 2 ^ m.1 ≤ 128 := by decide
  exact H ⟨m, h⟩

theorem own_cell {w : World} {B g n cap : Nat} {t : List Nat} (h : w.ownsRow B 5 1 (.slice (some ⟨g, 0, none⟩) n cap) n (bys t)) (hl : t.length = n) {i : Nat} (hi : i < n) :
    w.cell? ⟨g, i, none⟩ = some (.int .u8 ((t.getD i 0 : Nat) : Int)) := by
  rw [h.cellAt i (by omega), bys_at (by omega)]
theorem own_store {w : World} {B g n cap : Nat} {t : List Nat} (h : w.ownsRow B 5 1 (.slice (some ⟨g, 0, none⟩) n cap) n (bys t)) (i u : Nat) :
    (w.setCell ⟨g, i, none⟩ (.int .u8 (u : Int))).ownsRow B 5 1 (.slice (some ⟨g, 0, none⟩) n cap) n (bys (t.set i u)) := by
  have e : bys (t.set i u) = (bys t).set i (.int .u8 (u : Int)) := by simp [bys, List.map_set]
  rw [e]
  exact (h.stored i (.int .u8 (u : Int))).1

set_option maxRecDepth 100000 in
set_option maxHeartbeats 4000000 in
theorem burst_short (p : Option Addr) (n c : Nat) (l : List Nat) (at' burst : Nat) (ha : at' < 65536) (hbu : burst < 65536) (w : World) (hn : n ≤ 300) (hnc : n ≤ c) (h : At w p n l) :
    Calls Try.prog 4 #[.slice p n c, .int .u16 (at' : Int), .int .u16 (burst : Int)] w fun e w' => e = .returned (.bool true) ∧ Below w.heap.size w w' := by
  have hn' : (n : Int) ≤ 300 := by omega
  have hc : (n : Int) ≤ (c : Int) := by omega
  have ht : (tight l).length = n + 2 := by rw [tight_length, h.1]
  have htake : (tight l).take n = l := by rw [tight_eq, List.take_left' h.1]
  have K1 := Lib.hid (seal_any p n c l w (by omega) h)
  have K2 := Lib.hid (fun W q d (hd : n + 2 ≤ d) (hA : At W q (n + 2) (tight l)) => htake ▸ open_yes q n d (tight l) W (by omega) hd hA (good_tight h.2.1))
  have K3 := Lib.hid (fun W q d (hW : Below w.heap.size w W) hA => same_one q p n d c l W (by omega) hA (h.keep hW))
  have K4 := Lib.hid (fun W q d (hd : n + 2 ≤ d) (hA : At W q (n + 2) (tight l)) => good_at q (n + 2) d (tight l) true W (good_tight h.2.1) (by omega) hd hA)
  have ST := Lib.hid (fun place => Ck.off_start n place h.1 h.2.1)
  clear h ht htake
  have B0 := Lib.hid (Below.refl w.heap.size w)
  go_enter Try.func4, Try.ntmps4
  go_wp2_with fail
  refine K1.out.mono ?_
  rintro e w1 ⟨q, d, rfl, hd, hA, hb⟩
  have B1 := Lib.hid hb
  have A1 := Lib.hid hA
  clear hb hA B0
  go_wp2_with fail
  refine (K2.out _ q d hd A1.out).mono ?_
  rintro e w2 ⟨q2, d2, rfl, hd2, hA2, hb⟩
  have B2 := Lib.hid (B1.out.trans (hb.mono B1.out.size))
  have A2 := Lib.hid hA2
  have A1' := Lib.hid (A1.out.keep hb)
  clear hb hA2 B1 A1
  go_wp2_with fail
  refine (K3.out _ q2 d2 B2.out A2.out).mono ?_
  rintro e w3 ⟨rfl, hb⟩
  have B3 := Lib.hid (B2.out.trans (hb.mono B2.out.size))
  have A3 := Lib.hid (A1'.out.keep hb)
  clear hb B2 A1' A2
  go_wp2_with fail
  refine (K4.out _ q d hd A3.out).mono ?_
  rintro e w4 ⟨rfl, hb⟩
  have B4 := Lib.hid (B3.out.trans (hb.mono B3.out.size))
  have A4 := Lib.hid (A3.out.keep hb)
  clear hb B3 A3
  have A5 := Lib.hid (A4.out.keep ((Below.refl _ w4).alloc (Nat.le_refl _) (.cells #[] 5)))
  have O5 := Lib.hid (made_none w4)
  have B5 := Lib.hid (B4.out.alloc B4.out.size (.cells #[] 5))
  have hz4 := B4.out.size
  clear B4 A4
  obtain ⟨place, hpl, hp⟩ := place_of at' n
  go_wp2_with (at_builtin; go_loud (refine wpList_app rfl (.tmp 52) (.tmp 53) rfl w4.heap.size _ 0 [] rfl O5.out q (n + 2) d (tight l) rfl A5.out (by omega) (size_alloc _ _) ?_); intro v6 w6 hown hg hat; go_loud (obtain ⟨g, cap, rfl, hbg, hlt⟩ := hown.form (by omega)))
  rw [hpl]
  have B6 := Lib.hid (B5.out.grown hg B5.out.size (fun k hk => Nat.le_trans hz4 (O5.out.lt k hk).1))
  have O6 : w6.ownsRow w4.heap.size 5 1 (.slice (some ⟨g, 0, none⟩) (n + 2) cap) (n + 2) (bys (tight l)) := by simpa using hown
  have O6' := Lib.hid O6
  have T0 := Lib.hid (ST.out place)
  clear hown hg hat O6 O5 A5 B5 ST hpl K1 K2 K3 K4 hlt
  go_loopw [13, 14, 15] (fun sm x i wr => ∃ (k Q y : Nat) (b : Bool) (t : List Nat), k ≤ 16 ∧ i = .int .i64 k ∧ x = .int .i64 (y : Int) ∧ sm = .bool b ∧ Hid (b = decide (Q ≠ 0)) ∧ Hid (Ck.Off n place k Q t) ∧ y < 65536 ∧
    Hid (wr.ownsRow w4.heap.size 5 1 (.slice (some ⟨g, 0, none⟩) (n + 2) cap) (n + 2) (bys t)) ∧ Hid (Below w.heap.size w wr)) (fun _ _ i _ => 16 - (intOf i).toNat)
  case atStart => exact ⟨0, 0, burst, false, tight l, by omega, rfl, rfl, rfl, Lib.hid (by decide), T0, hbu, O6', B6⟩
  case round =>
    clear T0 O6' B6 hbu ha
    obtain ⟨k, Q, y, b, t, hk, rfl, rfl, rfl, HB, HT, hy, HO, HW⟩ := hrel
    by_cases hlt : k < 16
    · by_cases hbit : y % 2 = 1
      · have hd : ((y : Int) % 2 == 1) = true := by rw [beq_iff_eq]; omega
        obtain ⟨y2, hy2, hyb⟩ := half_of y hy
        have TT := Lib.hid (Ck.off_turn HT.out hlt hp)
        have e0 : (place : Int) + (k : Int) = ((place + k : Nat) : Int) := by omega
        have hki : (place + k) / 8 < n + 2 := by omega
        have hkr : (place + k) % 8 < 8 := by omega
        have e1 : ((place + k : Nat) : Int) % 8 = (((place + k) % 8 : Nat) : Int) := by omega
        have e2 : ((place + k : Nat) : Int) / 8 = (((place + k) / 8 : Nat) : Int) := by omega
        have hKK : ((place + k : Nat) : Int) ≤ 10000 := by omega
        generalize (place + k) / 8 = ii at *
        generalize (place + k) % 8 = rr at *
        generalize place + k = kk at *
        have hKr : (rr : Int) ≤ 7 := by omega
        have hKr0 : (0 : Int) ≤ 7 - (rr : Int) := by omega
        go_wp2
        go_loop [17, 18] (fun bt i => ∃ m : Nat, m ≤ 7 - rr ∧ i = .int .i64 m ∧ bt = .int .u8 ((2 ^ m : Nat) : Int)) (fun _ i => 7 - rr - (intOf i).toNat)
        case atStart => exact ⟨0, by omega, rfl, rfl⟩
        case round =>
          obtain ⟨m, hm, rfl, rfl⟩ := hrel
          by_cases hml : m < 7 - rr
          · have hpw := pow_small m (by omega)
            have PP := Lib.hid (Nat.pow_succ 2 m)
            generalize 2 ^ m = z at *
            have hmi : (m : Int) < 7 - (rr : Int) := by omega
            go_wp2
            go_round
            case rel => exact ⟨m + 1, by omega, by go_num, by rw [PP.out]; go_num⟩
            case measure => simp [intOf]; omega
          · obtain rfl : m = 7 - rr := by omega
            have hmd : ((7 - rr : Nat) : Int) = 7 - (rr : Int) := by omega
            have hcell := own_cell HO.out HT.out.1 hki
            have hfr := HO.out.frozenAt ii
            have hx := getD_lt HT.out.2.1 ii
            have EL := Lib.hid (Ck.bit_less (t.getD ii 0) (7 - rr) hx (by omega))
            have EP := Lib.hid (Ck.bit_plus (t.getD ii 0) (7 - rr) hx (by omega))
            have hzz := pow_byte (7 - rr) (by omega)
            have ST1 := Lib.hid (fun u (hu : t.getD ii 0 ^^^ 2 ^ (7 - rr) = u) => own_store HO.out ii u)
            generalize t.getD ii 0 = x at *
            generalize 2 ^ (7 - rr) = z at *
            have x0 : 0 ≤ (x : Int) / (z : Int) := Int.ediv_nonneg (by omega) (by omega)
            have x1 : (x : Int) / (z : Int) ≤ (x : Int) := Int.ediv_le_self _ (by omega)
            have z0 : (0 : Int) < (z : Int) := by omega
            by_cases hs : x / z % 2 = 1
            · have hd2 : ((x : Int) / (z : Int) % 2 == 1) = true := by rw [beq_iff_eq]; exact_mod_cast hs
              obtain ⟨EX, hle⟩ := EL.out hs
              have EX' := Lib.hid EX
              clear EX hs EL EP
              have ST2 := Lib.hid (ST1.out (x - z) EX'.out)
              have hsub : (((x - z : Nat) : Nat) : Int) = (x : Int) - (z : Int) := by omega
              have ST3 := Lib.hid (hsub ▸ ST2.out)
              have TT3 := Lib.hid (EX'.out ▸ TT.out)
              have hgb : w.heap.size ≤ g := Nat.le_trans hz4 hbg
              clear ST2 ST1 hsub TT EX'
              go_wp2
              go_roundw
              case rel => exact ⟨k + 1, 2 * Q + 1, y2, true, _, by omega, by go_num, rfl, rfl, Lib.hid (by simp), TT3, hyb, ST3, Lib.hid (HW.out.setCell hgb _)⟩
              case measure => simp [intOf]; omega
            · have hd2 : ((x : Int) / (z : Int) % 2 == 1) = false := by rw [beq_eq_false_iff_ne]; intro e; exact hs (by exact_mod_cast e)
              obtain ⟨EX, hle⟩ := EP.out hs
              have EX' := Lib.hid EX
              clear EX hs EL EP
              have ST2 := Lib.hid (ST1.out (x + z) EX'.out)
              have hsub : (((x + z : Nat) : Nat) : Int) = (x : Int) + (z : Int) := by omega
              have ST3 := Lib.hid (hsub ▸ ST2.out)
              have TT3 := Lib.hid (EX'.out ▸ TT.out)
              have hgb : w.heap.size ≤ g := Nat.le_trans hz4 hbg
              clear ST2 ST1 hsub TT EX'
              go_wp2
              go_roundw
              case rel => exact ⟨k + 1, 2 * Q + 1, y2, true, _, by omega, by go_num, rfl, rfl, Lib.hid (by simp), TT3, hyb, ST3, Lib.hid (HW.out.setCell hgb _)⟩
              case measure => simp [intOf]; omega
      · have hd : ((y : Int) % 2 == 1) = false := by rw [beq_eq_false_iff_ne]; omega
        obtain ⟨y2, hy2, hyb⟩ := half_of y hy
        have TT := Lib.hid (Ck.off_skip HT.out hlt)
        have BB := Lib.hid (show b = decide (2 * Q ≠ 0) by rw [HB.out]; congr 1; rw [eq_iff_iff]; omega)
        clear hbit HT HB
        go_wp2
        go_roundw
        case rel => exact ⟨k + 1, 2 * Q, y2, b, t, by omega, by go_num, rfl, rfl, BB, TT, hyb, HO, HW⟩
        case measure => simp [intOf]; omega
    · obtain rfl : k = 16 := by omega
      have E := Lib.hid (Ck.off_end HT.out)
      have hA := at_own HT.out.1 HT.out.2.1 HO.out
      obtain ⟨q3, d3, e3, hd3, hA⟩ := hA
      cases e3
      have G := Lib.hid (fun W (hW : Below wr.heap.size wr W) => good_at (some ⟨g, 0, none⟩) (n + 2) cap t _ W E.out (by omega) hd3 (hA.keep hW))
      have HE := Lib.hid (show (decide (Q = 0) == !b) = true by rw [HB.out]; by_cases h : Q = 0 <;> simp [h])
      clear HT HO hA E hlt HB
      go_wp2_with fail
      refine (alive_any _).mono ?_
      rintro e w7 ⟨rfl, hb⟩
      have HB7 := Lib.hid hb
      have HW7 := Lib.hid (HW.out.trans (hb.mono HW.out.size))
      clear hb HW
      go_wp2_with fail
      refine (G.out _ HB7.out).mono ?_
      rintro e w8 ⟨rfl, hb⟩
      have HW8 := Lib.hid (HW7.out.trans (hb.mono HW7.out.size))
      clear hb HW7 HB7 G
      go_wp2
      go_ret
      exact ⟨ret_bool HE.out, HW8.out⟩

theorem burst_long (p : Option Addr) (n c : Nat) (x y : Int) (w : World) (hn : 300 < n) (hbig : n ≤ 9223372036854775807) :
    Calls Try.prog 4 #[.slice p n c, .int .u16 x, .int .u16 y] w fun e w' => e = .returned (.bool true) ∧ Below w.heap.size w w' := by
  have h1 : (300 : Int) < (n : Int) := by omega
  go_enter Try.func4, Try.ntmps4
  go_wp2_with fail
  refine (alive_any _).mono ?_
  rintro e w1 ⟨rfl, hb⟩
  have HB := Lib.hid hb
  clear hb
  go_wp2
  go_ret
  exact ⟨rfl, HB.out⟩

theorem nat_word {n : Int} (h : (Lit.int .u16 n).wf = true) : ∃ m : Nat, n = (m : Int) ∧ m < 65536 := by
  have h1 := (Lit.wf_int_iff .u16 n).1 h
  have e1 : IntKind.u16.min = 0 := by decide
  have e2 : IntKind.u16.max = 65535 := by decide
  rw [e1, e2] at h1
  exact ⟨n.toNat, by omega, by omega⟩

theorem burst_any (a : Option Addr) (len cap : Nat) (zs : List Int) (x : Int) (wx : (Lit.int .u16 x).wf = true) (y : Int) (wy : (Lit.int .u16 y).wf = true) (w : World) (hrow : IsRow .u8 w a len cap zs) :
    Calls Try.prog 4 #[.slice a len cap, .int .u16 x, .int .u16 y] w fun e w' => e = .returned (.bool true) ∧ Below w.heap.size w w' := by
  obtain ⟨hnc, hbig, l, h⟩ := at_row hrow
  by_cases h3 : 300 < len
  · exact burst_long a len cap x y w h3 hbig
  · obtain ⟨m, rfl, hm⟩ := nat_word wx
    obtain ⟨k, rfl, hk⟩ := nat_word wy
    exact burst_short a len cap l m k hm hk w (by omega) hnc h
end Go.Proofs.Ytpcpfcbcmenliaa
