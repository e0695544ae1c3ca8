/- Walks over the document's answer of layer 18: a command's bytes, whether two are the same. Condition: the command's bytes read as such. -/
import Derived.Test.YtbahilakfgbgpaaDoorCm1
import Derived.Test.YtbahilakfgbgpaaDoorCe2
import Derived.Test.YtbahilakfgbgpaaDoorSame
namespace Go.Proofs.YtbahilakfgbgpaaDoor
open Go.RowKit

namespace Cm
open Ce (rwrote_below short_some rw_new)
theorem wnum_one {l : List Nat} {n : Nat} (h : n < 256) : Oc.wnum (some l) n 1 = some (l ++ Oc.be 1 n) := by
  rw [Oc.wnum_yes l (Oc.fit_mk (by omega) (by omega) (by simp; omega))]
  rfl
theorem wnum_int {l : List Nat} {n : Nat} (h : n < 18446744073709551616) : Oc.wnum (some l) n 8 = some (l ++ Oc.be 8 n) := by
  rw [Oc.wnum_yes l (Oc.fit_mk (by omega) (by omega) (by simp; omega))]
  rfl
theorem wrun_yes {l b : List Nat} (h : b.length ≤ 64) : Oc.wrun (some l) b = some (l ++ (Oc.be 4 b.length ++ b)) := by
  unfold Oc.wrun
  rw [Oc.wnum_yes l (Oc.fit_mk (by omega) (by omega) (by simp; omega))]
  show some (l ++ Oc.be 4 b.length ++ b) = _
  rw [List.append_assoc]
set_option maxRecDepth 100000 in
set_option maxHeartbeats 16000000 in
theorem r18enc_no (y : Cv) (w : World) (hl : y.x.bytes.length = y.n) (hn : y.n ≤ 1000000) (h : rightB y.x = false) : Calls Tryd.prog 7 #[cval y] w fun e w' => e = .returned (.tuple #[.slice none 0 0, .int .i64 1]) ∧ Below w.heap.size w w' := by
  have R := Lib.hid (fun W => r18right_any y W hl hn)
  rw [h] at R
  obtain ⟨⟨ka, kb, kc, kd, ke, kf, kl⟩, kp, kn, kq⟩ := y
  simp only [cval] at R ⊢
  clear h hl hn
  have B_0 := Lib.hid (Below.refl w.heap.size w)
  have B_1 := Lib.hid (B_0.out.alloc B_0.out.size (.cells #[.int .i64 ka, .int .i64 kb, .int .i64 kc, .int .i64 kd, .int .i64 ke, .int .i64 kf, .slice kp kn kq] 25))
  clear B_0
  have C_1 := Lib.hid (Lies.new w 25 #[.int .i64 ka, .int .i64 kb, .int .i64 kc, .int .i64 kd, .int .i64 ke, .int .i64 kf, .slice kp kn kq])
  have c0_1 : (w.alloc (.cells #[.int .i64 ka, .int .i64 kb, .int .i64 kc, .int .i64 kd, .int .i64 ke, .int .i64 kf, .slice kp kn kq] 25)).cell? ⟨w.heap.size, 0, none⟩ = some (.int .i64 ka) := C_1.out.cell 0
  have c1_1 : (w.alloc (.cells #[.int .i64 ka, .int .i64 kb, .int .i64 kc, .int .i64 kd, .int .i64 ke, .int .i64 kf, .slice kp kn kq] 25)).cell? ⟨w.heap.size, 1, none⟩ = some (.int .i64 kb) := C_1.out.cell 1
  have c2_1 : (w.alloc (.cells #[.int .i64 ka, .int .i64 kb, .int .i64 kc, .int .i64 kd, .int .i64 ke, .int .i64 kf, .slice kp kn kq] 25)).cell? ⟨w.heap.size, 2, none⟩ = some (.int .i64 kc) := C_1.out.cell 2
  have c3_1 : (w.alloc (.cells #[.int .i64 ka, .int .i64 kb, .int .i64 kc, .int .i64 kd, .int .i64 ke, .int .i64 kf, .slice kp kn kq] 25)).cell? ⟨w.heap.size, 3, none⟩ = some (.int .i64 kd) := C_1.out.cell 3
  have c4_1 : (w.alloc (.cells #[.int .i64 ka, .int .i64 kb, .int .i64 kc, .int .i64 kd, .int .i64 ke, .int .i64 kf, .slice kp kn kq] 25)).cell? ⟨w.heap.size, 4, none⟩ = some (.int .i64 ke) := C_1.out.cell 4
  have c5_1 : (w.alloc (.cells #[.int .i64 ka, .int .i64 kb, .int .i64 kc, .int .i64 kd, .int .i64 ke, .int .i64 kf, .slice kp kn kq] 25)).cell? ⟨w.heap.size, 5, none⟩ = some (.int .i64 kf) := C_1.out.cell 5
  have c6_1 : (w.alloc (.cells #[.int .i64 ka, .int .i64 kb, .int .i64 kc, .int .i64 kd, .int .i64 ke, .int .i64 kf, .slice kp kn kq] 25)).cell? ⟨w.heap.size, 6, none⟩ = some (.slice kp kn kq) := C_1.out.cell 6
  go_enter Tryd.func7, Tryd.ntmps7
  go_wp2_with fail
  refine (R.out _).mono ?_
  rintro e w2 ⟨rfl, hb⟩
  clear c0_1 c1_1 c2_1 c3_1 c4_1 c5_1 c6_1
  have B_2 := Lib.hid (B_1.out.trans (hb.mono B_1.out.size))
  have C_2 := Lib.hid (C_1.out.below hb C_1.out.lt)
  clear B_1 C_1
  clear hb 
  go_wp2
  go_ret2
  exact ⟨rfl, B_2.out⟩
set_option maxRecDepth 100000 in
set_option maxHeartbeats 16000000 in
theorem r18enc_yes (y : Cv) (w : World) (hB : Bt w y) (hn : y.n ≤ 1000000) (h : rightB y.x = true) : Calls Tryd.prog 7 #[cval y] w fun e w' => (∃ q d, e = .returned (.tuple #[.slice q (raw y.x).length d, .int .i64 0]) ∧ (raw y.x).length ≤ d ∧ At w' q (raw y.x).length (raw y.x)) ∧ Below w.heap.size w w' := by
  have R := Lib.hid (fun W => r18right_any y W hB.len hn)
  rw [h] at R
  have N := Lib.hid (fun W => r18num_below y.x.kind W)
  have T := Lib.hid (fun i (hi : i < 5) W => r18nth_any y i hi W)
  obtain ⟨h1, h2, h3, _⟩ := right_iff.1 h
  have hk := cnt_yes h1
  have HRW := Lib.hid (show raw y.x = Oc.be 1 y.x.kind.toNat ++ (numsL y.x (cnt y.x.kind).toNat ++ if y.x.kind = 0 then Oc.be 4 y.x.bytes.length ++ y.x.bytes else []) from rfl)
  have HLT := Lib.hid (raw_lt h hB.1.2.1)
  have LE := (raw_le h).2
  have CB := (cnt_bd y.x.kind).2
  have NL := Lib.hid (nums_len y.x)
  have NN := Lib.hid (nums_next y.x)
  have UI := Lib.hid (fun i => u64_is (nth y.x i))
  have AT := Lib.hid hB.1
  have HL2 := Lib.hid h2
  clear h hB h3
  obtain ⟨⟨ka, kb, kc, kd, ke, kf, kl⟩, kp, kn, kq⟩ := y
  simp only [cval] at R N T HRW LE CB NL NN UI AT HL2 HLT h1 hk ⊢
  obtain ⟨m, hm⟩ : ∃ m : Nat, cnt ka = (m : Int) := ⟨(cnt ka).toNat, by omega⟩
  rw [hm] at N CB h1 HRW
  simp only [Int.toNat_natCast] at HRW
  obtain ⟨kk, rfl⟩ : ∃ kk : Nat, ka = (kk : Int) := ⟨ka.toNat, by omega⟩
  simp only [Int.toNat_natCast] at HRW
  have hk2 : kk ≤ 15 := by omega
  have hk3 : ((kk : Nat) : Int) ≤ 15 := by omega
  have hm5 : m ≤ 5 := by omega
  have HM := Lib.hid hm
  clear hm h1 CB hk h2
  have B_0 := Lib.hid (Below.refl w.heap.size w)
  have B_1 := Lib.hid (B_0.out.alloc B_0.out.size (.cells #[.int .i64 ((kk : Nat) : Int), .int .i64 kb, .int .i64 kc, .int .i64 kd, .int .i64 ke, .int .i64 kf, .slice kp kn kq] 25))
  clear B_0
  have C_1 := Lib.hid (Lies.new w 25 #[.int .i64 ((kk : Nat) : Int), .int .i64 kb, .int .i64 kc, .int .i64 kd, .int .i64 ke, .int .i64 kf, .slice kp kn kq])
  have c0_1 : (w.alloc (.cells #[.int .i64 ((kk : Nat) : Int), .int .i64 kb, .int .i64 kc, .int .i64 kd, .int .i64 ke, .int .i64 kf, .slice kp kn kq] 25)).cell? ⟨w.heap.size, 0, none⟩ = some (.int .i64 ((kk : Nat) : Int)) := C_1.out.cell 0
  have c1_1 : (w.alloc (.cells #[.int .i64 ((kk : Nat) : Int), .int .i64 kb, .int .i64 kc, .int .i64 kd, .int .i64 ke, .int .i64 kf, .slice kp kn kq] 25)).cell? ⟨w.heap.size, 1, none⟩ = some (.int .i64 kb) := C_1.out.cell 1
  have c2_1 : (w.alloc (.cells #[.int .i64 ((kk : Nat) : Int), .int .i64 kb, .int .i64 kc, .int .i64 kd, .int .i64 ke, .int .i64 kf, .slice kp kn kq] 25)).cell? ⟨w.heap.size, 2, none⟩ = some (.int .i64 kc) := C_1.out.cell 2
  have c3_1 : (w.alloc (.cells #[.int .i64 ((kk : Nat) : Int), .int .i64 kb, .int .i64 kc, .int .i64 kd, .int .i64 ke, .int .i64 kf, .slice kp kn kq] 25)).cell? ⟨w.heap.size, 3, none⟩ = some (.int .i64 kd) := C_1.out.cell 3
  have c4_1 : (w.alloc (.cells #[.int .i64 ((kk : Nat) : Int), .int .i64 kb, .int .i64 kc, .int .i64 kd, .int .i64 ke, .int .i64 kf, .slice kp kn kq] 25)).cell? ⟨w.heap.size, 4, none⟩ = some (.int .i64 ke) := C_1.out.cell 4
  have c5_1 : (w.alloc (.cells #[.int .i64 ((kk : Nat) : Int), .int .i64 kb, .int .i64 kc, .int .i64 kd, .int .i64 ke, .int .i64 kf, .slice kp kn kq] 25)).cell? ⟨w.heap.size, 5, none⟩ = some (.int .i64 kf) := C_1.out.cell 5
  have c6_1 : (w.alloc (.cells #[.int .i64 ((kk : Nat) : Int), .int .i64 kb, .int .i64 kc, .int .i64 kd, .int .i64 ke, .int .i64 kf, .slice kp kn kq] 25)).cell? ⟨w.heap.size, 6, none⟩ = some (.slice kp kn kq) := C_1.out.cell 6
  go_enter Tryd.func7, Tryd.ntmps7
  go_wp2_with fail
  refine (R.out _).mono ?_
  rintro e w2 ⟨rfl, hb⟩
  clear c0_1 c1_1 c2_1 c3_1 c4_1 c5_1 c6_1
  have B_2 := Lib.hid (B_1.out.trans (hb.mono B_1.out.size))
  have C_2 := Lib.hid (C_1.out.below hb C_1.out.lt)
  clear B_1 C_1
  clear hb 
  have X1 := Lib.hid (C_2.out)
  have B1 := Lib.hid (B_2.out)
  have A1 := Lib.hid (AT.out.keep B1.out)
  clear B_2 C_2 R AT
  have P2 := Lib.hid (rw_new w2)
  have C2 := Lib.hid (alloc_below w2 (.cells #[.slice none 0 0, .int .i64 0] 49))
  have u0 : IntKind.u64.wrap ((kk : Nat) : Int) = (kk : Int) := by simp [IntKind.wrap, IntKind.bits, IntKind.signed]; omega
  have x0 : (w2.alloc (.cells #[.slice none 0 0, .int .i64 0] 49)).cell? ⟨w.heap.size, 0, none⟩ = some (.int .i64 ((kk : Nat) : Int)) := (X1.out.below C2.out X1.out.lt).cell 0
  go_wp2_with fail
  refine (Ob.rput_any _ _ _ (some []) kk 1 _ P2.out (by omega) (short_some (by simp))).mono ?_
  rintro e w3 ⟨rfl, hw⟩
  rw [wnum_one (by omega), List.nil_append] at hw
  obtain ⟨v3, p3, c3⟩ := rwrote_below P2.out C2.out hw
  have P3 := Lib.hid (show Ob.RW w3 w2.heap.size w2.heap.size v3 (some (Oc.be 1 kk ++ numsL ⟨((kk : Nat) : Int), kb, kc, kd, ke, kf, kl⟩ 0)) from by
    rw [show numsL ⟨((kk : Nat) : Int), kb, kc, kd, ke, kf, kl⟩ 0 = [] from rfl, List.append_nil]
    exact p3)
  have C3 := Lib.hid c3
  clear x0 hw p3 c3 P2 C2 u0
  go_wp2_with fail
  go_loopw [6] (fun i wr => ∃ (k : Nat) (v : Value), k ≤ m ∧ i = .int .i64 k ∧ Hid (Ob.RW wr w2.heap.size w2.heap.size v (some (Oc.be 1 kk ++ numsL ⟨((kk : Nat) : Int), kb, kc, kd, ke, kf, kl⟩ k))) ∧ Hid (Below w2.heap.size w2 wr)) (fun i _ => m - (RowKit.intOf i).toNat)
  case atStart => exact ⟨0, v3, Nat.zero_le _, rfl, P3, C3⟩
  case round =>
    clear P3 C3
    obtain ⟨k, v, hkm, rfl, PR, CR⟩ := hrel
    have hk5 : (k : Int) ≤ 5 := by omega
    have x0 : wr.cell? ⟨w.heap.size, 0, none⟩ = some (.int .i64 ((kk : Nat) : Int)) := (X1.out.below CR.out X1.out.lt).cell 0
    go_wp2_with fail
    refine (N.out _).mono ?_
    rintro e w4 ⟨rfl, hb⟩
    have P4 := Lib.hid (Ob.turn_below PR.out hb).1
    have C4 := Lib.hid (CR.out.trans (hb.mono CR.out.size))
    clear x0 hb PR CR
    by_cases hlt : k < m
    · have hk3 : (k : Int) < (m : Int) := by omega
      have x0 : w4.cell? ⟨w.heap.size, 0, none⟩ = some (.int .i64 ((kk : Nat) : Int)) := (X1.out.below C4.out X1.out.lt).cell 0
      have x1 : w4.cell? ⟨w.heap.size, 1, none⟩ = some (.int .i64 kb) := (X1.out.below C4.out X1.out.lt).cell 1
      have x2 : w4.cell? ⟨w.heap.size, 2, none⟩ = some (.int .i64 kc) := (X1.out.below C4.out X1.out.lt).cell 2
      have x3 : w4.cell? ⟨w.heap.size, 3, none⟩ = some (.int .i64 kd) := (X1.out.below C4.out X1.out.lt).cell 3
      have x4 : w4.cell? ⟨w.heap.size, 4, none⟩ = some (.int .i64 ke) := (X1.out.below C4.out X1.out.lt).cell 4
      have x5 : w4.cell? ⟨w.heap.size, 5, none⟩ = some (.int .i64 kf) := (X1.out.below C4.out X1.out.lt).cell 5
      have x6 : w4.cell? ⟨w.heap.size, 6, none⟩ = some (.slice kp kn kq) := (X1.out.below C4.out X1.out.lt).cell 6
      go_wp2_with fail
      refine (T.out k (by omega) _).mono ?_
      rintro e w5 ⟨rfl, hb⟩
      have P5 := Lib.hid (Ob.turn_below P4.out hb).1
      have C5 := Lib.hid (C4.out.trans (hb.mono C4.out.size))
      have NK := Lib.hid (NN.out k)
      have UK := Lib.hid (UI.out k)
      generalize nth ⟨((kk : Nat) : Int), kb, kc, kd, ke, kf, kl⟩ k = z at *
      clear x0 x1 x2 x3 x4 x5 x6 hb P4 C4
      go_wp2_with fail
      refine (Ob.rint_any _ _ _ _ z (u64 z) _ P5.out UK.out.1 UK.out.2 (short_some (by rw [List.length_append, Oc.be_length, NL.out]; omega))).mono ?_
      rintro e w6 ⟨rfl, hw⟩
      rw [wnum_int UK.out.2, List.append_assoc, ← NK.out] at hw
      obtain ⟨v6, p6, c6⟩ := rwrote_below P5.out C5.out hw
      have P6 := Lib.hid p6
      have C6 := Lib.hid c6
      clear hw p6 c6 P5 C5 NK UK
      go_wp2
      go_roundw
      case rel => exact ⟨k + 1, v6, by omega, by go_num, P6, C6⟩
      case measure => simp [RowKit.intOf]; omega
    · obtain rfl : k = m := by omega
      have x0 : w4.cell? ⟨w.heap.size, 0, none⟩ = some (.int .i64 ((kk : Nat) : Int)) := (X1.out.below C4.out X1.out.lt).cell 0
      by_cases h0 : kk = 0
      · subst h0
        have HR2 := HRW.out
        rw [if_pos (show (((0 : Nat) : Nat) : Int) = 0 from rfl)] at HR2
        have HR3 := Lib.hid HR2
        clear HR2
        have x6 : w4.cell? ⟨w.heap.size, 6, none⟩ = some (.slice kp kn kq) := (X1.out.below C4.out X1.out.lt).cell 6
        go_wp2_with fail
        refine (Ob.rrun_any _ _ _ _ kp kn kq kl _ P4.out (short_some (by rw [List.length_append, Oc.be_length, NL.out]; omega)) hn (A1.out.keep C4.out) (fun h0 a ha => Ob.src_far2 P4.out A1.out h0 a ha)).mono ?_
        rintro e w6 ⟨rfl, hw⟩
        rw [wrun_yes HL2.out, List.append_assoc, ← HR3.out] at hw
        obtain ⟨v6, p6, c6⟩ := rwrote_below P4.out C4.out hw
        obtain ⟨q, d, e1⟩ := own_slice p6.2.2.1
        subst e1
        have k0 : w6.cell? ⟨w2.heap.size, 0, none⟩ = some (.slice q (raw ⟨((0 : Nat) : Int), kb, kc, kd, ke, kf, kl⟩).length d) := p6.2.1.cell 0
        obtain ⟨q', d', e2, hd, hA⟩ := at_own rfl HLT.out p6.2.2.1
        cases e2
        have RES := Lib.hid (And.intro hd hA)
        have BE := Lib.hid (B1.out.trans (c6.mono B1.out.size))
        clear hd hA p6 c6 HRW
        go_wp2
        go_ret2
        exact ⟨⟨q, d, rfl, RES.out.1, RES.out.2⟩, BE.out⟩
      · have t0 : (((kk : Nat) : Int) == 0) = false := by rw [beq_eq_false_iff_ne]; omega
        have HR2 := HRW.out
        rw [if_neg (by omega), List.append_nil] at HR2
        have p6 := P4.out
        have c6 := C4.out
        rw [← HR2] at p6
        clear HR2
        obtain ⟨q, d, e1⟩ := own_slice p6.2.2.1
        subst e1
        have k0 : w4.cell? ⟨w2.heap.size, 0, none⟩ = some (.slice q (raw ⟨((kk : Nat) : Int), kb, kc, kd, ke, kf, kl⟩).length d) := p6.2.1.cell 0
        obtain ⟨q', d', e2, hd, hA⟩ := at_own rfl HLT.out p6.2.2.1
        cases e2
        have RES := Lib.hid (And.intro hd hA)
        have BE := Lib.hid (B1.out.trans (c6.mono B1.out.size))
        clear hd hA p6 c6
        go_wp2
        go_ret2
        exact ⟨⟨q, d, rfl, RES.out.1, RES.out.2⟩, BE.out⟩
theorem ext7 {a b c d e f a2 b2 c2 d2 e2 f2 : Int} {l l2 : List Nat} : ((⟨a, b, c, d, e, f, l⟩ : Cm) = ⟨a2, b2, c2, d2, e2, f2, l2⟩) ↔ (a = a2 ∧ b = b2 ∧ c = c2 ∧ d = d2 ∧ e = e2 ∧ f = f2 ∧ l = l2) := by
  rw [Cm.mk.injEq]
theorem bsame_any (p q : Option Addr) (n m c d : Nat) (l l2 : List Nat) (w : World) (hn : n ≤ 9223372036854775807) (h : At w p n l) (h2 : At w q m l2) :
    Calls Tryd.prog 10 #[.slice p n c, .slice q m d] w fun e w' => e = .returned (.bool (decide (l = l2))) ∧ Below w.heap.size w w' := by
  have hb : ∀ k, Below w.heap.size w (w.drewN k) := fun k => ⟨rfl, rfl, rfl, Nat.le_refl _, fun _ _ => rfl⟩
  by_cases hm : n = m
  · subst hm
    by_cases h0 : 0 < n
    · obtain ⟨b, o, rfl, hc⟩ := h.2.2 h0
      obtain ⟨b2, o2, rfl, hc2⟩ := h2.2.2 h0
      refine (same_some b o b2 o2 n c d l l2 w h.1 h2.1 hn hc hc2).mono fun e w' he => ?_
      obtain ⟨he, k, rfl⟩ := he
      exact ⟨he, hb k⟩
    · obtain rfl : n = 0 := by omega
      refine (same_nil p q c d w).mono fun e w' he => ?_
      obtain ⟨he, rfl⟩ := he
      have e1 : l = [] := List.eq_nil_of_length_eq_zero h.1
      have e2 : l2 = [] := List.eq_nil_of_length_eq_zero h2.1
      subst e1 e2
      exact ⟨by rw [he]; rfl, Below.refl _ _⟩
  · refine (same_other p q n m c d w hm).mono fun e w' he => ?_
    obtain ⟨he, rfl⟩ := he
    refine ⟨?_, Below.refl _ _⟩
    rw [he, decide_eq_false]
    intro e
    subst e
    exact hm (h.1.symm.trans h2.1)
set_option maxRecDepth 100000 in
set_option maxHeartbeats 16000000 in
theorem r18same_any (y z : Cv) (w : World) (hy : Bt w y) (hz : Bt w z) (hn : y.n ≤ 9223372036854775807) : Calls Tryd.prog 11 #[cval y, cval z] w fun e w' => e = .returned (.bool (decide (y.x = z.x))) ∧ Below w.heap.size w w' := by
  have S := Lib.hid (fun W (hW : Below w.heap.size w W) => bsame_any y.p z.p y.n z.n y.c z.c y.x.bytes z.x.bytes W hn (hy.1.keep hW) (hz.1.keep hW))
  clear hy hz hn
  obtain ⟨⟨ka, kb, kc, kd, ke, kf, kl⟩, kp, kn, kq⟩ := y
  obtain ⟨⟨ja, jb, jc, jd, je, jf, jl⟩, jp, jn, jq⟩ := z
  simp only [cval] at S ⊢
  have E := Lib.hid (show decide ((⟨ka, kb, kc, kd, ke, kf, kl⟩ : Cm) = ⟨ja, jb, jc, jd, je, jf, jl⟩) = decide (ka = ja ∧ kb = jb ∧ kc = jc ∧ kd = jd ∧ ke = je ∧ kf = jf ∧ kl = jl) by rw [decide_eq_decide]; exact ext7)
  rw [E.out]
  clear E
  have B_0 := Lib.hid (Below.refl w.heap.size w)
  have B_1 := Lib.hid (B_0.out.alloc B_0.out.size (.cells #[.int .i64 ka, .int .i64 kb, .int .i64 kc, .int .i64 kd, .int .i64 ke, .int .i64 kf, .slice kp kn kq] 25))
  clear B_0
  have C_1 := Lib.hid (Lies.new w 25 #[.int .i64 ka, .int .i64 kb, .int .i64 kc, .int .i64 kd, .int .i64 ke, .int .i64 kf, .slice kp kn kq])
  have B_2 := Lib.hid (B_1.out.alloc B_1.out.size (.cells #[.int .i64 ja, .int .i64 jb, .int .i64 jc, .int .i64 jd, .int .i64 je, .int .i64 jf, .slice jp jn jq] 25))
  have C_2 := Lib.hid (C_1.out.alloc (.cells #[.int .i64 ja, .int .i64 jb, .int .i64 jc, .int .i64 jd, .int .i64 je, .int .i64 jf, .slice jp jn jq] 25))
  clear B_1 C_1
  have D_2 := Lib.hid (show Lies ((w.alloc (.cells #[.int .i64 ka, .int .i64 kb, .int .i64 kc, .int .i64 kd, .int .i64 ke, .int .i64 kf, .slice kp kn kq] 25)).alloc (.cells #[.int .i64 ja, .int .i64 jb, .int .i64 jc, .int .i64 jd, .int .i64 je, .int .i64 jf, .slice jp jn jq] 25)) (w.heap.size + 1) 25 #[.int .i64 ja, .int .i64 jb, .int .i64 jc, .int .i64 jd, .int .i64 je, .int .i64 jf, .slice jp jn jq] by simpa using Lies.new (w.alloc (.cells #[.int .i64 ka, .int .i64 kb, .int .i64 kc, .int .i64 kd, .int .i64 ke, .int .i64 kf, .slice kp kn kq] 25)) 25 #[.int .i64 ja, .int .i64 jb, .int .i64 jc, .int .i64 jd, .int .i64 je, .int .i64 jf, .slice jp jn jq])
  have c6_2 : ((w.alloc (.cells #[.int .i64 ka, .int .i64 kb, .int .i64 kc, .int .i64 kd, .int .i64 ke, .int .i64 kf, .slice kp kn kq] 25)).alloc (.cells #[.int .i64 ja, .int .i64 jb, .int .i64 jc, .int .i64 jd, .int .i64 je, .int .i64 jf, .slice jp jn jq] 25)).cell? ⟨w.heap.size, 6, none⟩ = some (.slice kp kn kq) := C_2.out.cell 6
  have d6_2 : ((w.alloc (.cells #[.int .i64 ka, .int .i64 kb, .int .i64 kc, .int .i64 kd, .int .i64 ke, .int .i64 kf, .slice kp kn kq] 25)).alloc (.cells #[.int .i64 ja, .int .i64 jb, .int .i64 jc, .int .i64 jd, .int .i64 je, .int .i64 jf, .slice jp jn jq] 25)).cell? ⟨(w.heap.size + 1), 6, none⟩ = some (.slice jp jn jq) := D_2.out.cell 6
  go_enter Tryd.func11, Tryd.ntmps11
  go_wp2_with fail
  refine (S.out _ B_2.out).mono ?_
  rintro e w3 ⟨rfl, hb⟩
  clear c6_2 d6_2
  have B_3 := Lib.hid (B_2.out.trans (hb.mono B_2.out.size))
  have C_3 := Lib.hid (C_2.out.below hb C_2.out.lt)
  have D_3 := Lib.hid (D_2.out.below hb D_2.out.lt)
  clear B_2 C_2 D_2
  clear hb 
  clear S
  have c0_3 : w3.cell? ⟨w.heap.size, 0, none⟩ = some (.int .i64 ka) := C_3.out.cell 0
  have c1_3 : w3.cell? ⟨w.heap.size, 1, none⟩ = some (.int .i64 kb) := C_3.out.cell 1
  have c2_3 : w3.cell? ⟨w.heap.size, 2, none⟩ = some (.int .i64 kc) := C_3.out.cell 2
  have c3_3 : w3.cell? ⟨w.heap.size, 3, none⟩ = some (.int .i64 kd) := C_3.out.cell 3
  have c4_3 : w3.cell? ⟨w.heap.size, 4, none⟩ = some (.int .i64 ke) := C_3.out.cell 4
  have c5_3 : w3.cell? ⟨w.heap.size, 5, none⟩ = some (.int .i64 kf) := C_3.out.cell 5
  have d0_3 : w3.cell? ⟨(w.heap.size + 1), 0, none⟩ = some (.int .i64 ja) := D_3.out.cell 0
  have d1_3 : w3.cell? ⟨(w.heap.size + 1), 1, none⟩ = some (.int .i64 jb) := D_3.out.cell 1
  have d2_3 : w3.cell? ⟨(w.heap.size + 1), 2, none⟩ = some (.int .i64 jc) := D_3.out.cell 2
  have d3_3 : w3.cell? ⟨(w.heap.size + 1), 3, none⟩ = some (.int .i64 jd) := D_3.out.cell 3
  have d4_3 : w3.cell? ⟨(w.heap.size + 1), 4, none⟩ = some (.int .i64 je) := D_3.out.cell 4
  have d5_3 : w3.cell? ⟨(w.heap.size + 1), 5, none⟩ = some (.int .i64 jf) := D_3.out.cell 5
  by_cases hl : kl = jl
  · have t0 : decide (kl = jl) = true := by simpa using hl
    by_cases h0 : ka = ja
    · have t1 : (ka == ja) = true := by simp [h0]
      by_cases h1 : kb = jb
      · have t2 : (kb == jb) = true := by simp [h1]
        by_cases h2 : kc = jc
        · have t3 : (kc == jc) = true := by simp [h2]
          by_cases h3 : kd = jd
          · have t4 : (kd == jd) = true := by simp [h3]
            by_cases h4 : ke = je
            · have t5 : (ke == je) = true := by simp [h4]
              by_cases h5 : kf = jf
              · have t6 : (kf == jf) = true := by simp [h5]
                have E := Lib.hid (show decide (ka = ja ∧ kb = jb ∧ kc = jc ∧ kd = jd ∧ ke = je ∧ kf = jf ∧ kl = jl) = true by simp [h0, h1, h2, h3, h4, h5, hl])
                clear hl h0 h1 h2 h3 h4 h5
                go_wp2
                go_ret
                exact ⟨by rw [E.out]; rfl, B_3.out⟩
              · have t6 : (kf == jf) = false := by simp [h5]
                have E := Lib.hid (show decide (ka = ja ∧ kb = jb ∧ kc = jc ∧ kd = jd ∧ ke = je ∧ kf = jf ∧ kl = jl) = false by simp [h5])
                clear hl h0 h1 h2 h3 h4 h5
                go_wp2
                go_ret
                exact ⟨by rw [E.out]; rfl, B_3.out⟩
            · have t5 : (ke == je) = false := by simp [h4]
              have E := Lib.hid (show decide (ka = ja ∧ kb = jb ∧ kc = jc ∧ kd = jd ∧ ke = je ∧ kf = jf ∧ kl = jl) = false by simp [h4])
              clear hl h0 h1 h2 h3 h4
              go_wp2
              go_ret
              exact ⟨by rw [E.out]; rfl, B_3.out⟩
          · have t4 : (kd == jd) = false := by simp [h3]
            have E := Lib.hid (show decide (ka = ja ∧ kb = jb ∧ kc = jc ∧ kd = jd ∧ ke = je ∧ kf = jf ∧ kl = jl) = false by simp [h3])
            clear hl h0 h1 h2 h3
            go_wp2
            go_ret
            exact ⟨by rw [E.out]; rfl, B_3.out⟩
        · have t3 : (kc == jc) = false := by simp [h2]
          have E := Lib.hid (show decide (ka = ja ∧ kb = jb ∧ kc = jc ∧ kd = jd ∧ ke = je ∧ kf = jf ∧ kl = jl) = false by simp [h2])
          clear hl h0 h1 h2
          go_wp2
          go_ret
          exact ⟨by rw [E.out]; rfl, B_3.out⟩
      · have t2 : (kb == jb) = false := by simp [h1]
        have E := Lib.hid (show decide (ka = ja ∧ kb = jb ∧ kc = jc ∧ kd = jd ∧ ke = je ∧ kf = jf ∧ kl = jl) = false by simp [h1])
        clear hl h0 h1
        go_wp2
        go_ret
        exact ⟨by rw [E.out]; rfl, B_3.out⟩
    · have t1 : (ka == ja) = false := by simp [h0]
      have E := Lib.hid (show decide (ka = ja ∧ kb = jb ∧ kc = jc ∧ kd = jd ∧ ke = je ∧ kf = jf ∧ kl = jl) = false by simp [h0])
      clear hl h0
      go_wp2
      go_ret
      exact ⟨by rw [E.out]; rfl, B_3.out⟩
  · have t0 : decide (kl = jl) = false := by simpa using hl
    have E := Lib.hid (show decide (ka = ja ∧ kb = jb ∧ kc = jc ∧ kd = jd ∧ ke = je ∧ kf = jf ∧ kl = jl) = false by simp [hl])
    clear hl
    go_wp2
    go_ret
    exact ⟨by rw [E.out]; rfl, B_3.out⟩
end Cm
end Go.Proofs.YtbahilakfgbgpaaDoor
