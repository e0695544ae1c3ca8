/- Walks over package command: a command's bytes, whether two are the same. Conditions: the table is as the program lays it; the command's bytes read as such. -/
import Derived.Test.YtbahilakfgbgpaaDoorCmPa
import Derived.Test.YtbahilakfgbgpaaDoorShelf
namespace Go.Proofs.YtbahilakfgbgpaaDoor
open Go.RowKit

namespace Cm
set_option maxRecDepth 100000 in
set_option maxHeartbeats 16000000 in
theorem penc_no (y : Cv) (w : World) (hr : Tabl w) (hl : y.x.bytes.length = y.n) (hn : y.n ≤ 1000000) (h : rightB y.x = false) : Calls Tryd.prog 6 #[cval y] w fun e w' => e = .returned (.tuple #[.slice none 0 0, .int .i64 1]) ∧ Below w.heap.size w w' := by
  have RR := Lib.hid (fun W hW => pright_any y W hW hl hn)
  rw [h] at RR
  obtain ⟨⟨ka, kb, kc, kd, ke, kf, kl⟩, kp, kn, kq⟩ := y
  simp only [cval] at RR ⊢
  clear h hl hn
  have B_0 := Lib.hid (Below.refl w.heap.size w)
  have R_0 := Lib.hid (hr)
  clear hr
  have B_1 := Lib.hid (B_0.out.alloc B_0.out.size (.cells #[.int .i64 ka, .int .i64 kb, .int .i64 kc, .int .i64 kd, .int .i64 ke, .int .i64 kf, .slice kp kn kq] 25))
  have R_1 := Lib.hid (Tabl.on R_0.out (alloc_below w (.cells #[.int .i64 ka, .int .i64 kb, .int .i64 kc, .int .i64 kd, .int .i64 ke, .int .i64 kf, .slice kp kn kq] 25)))
  clear B_0 R_0
  have C_1 := Lib.hid (Lies.new w 25 #[.int .i64 ka, .int .i64 kb, .int .i64 kc, .int .i64 kd, .int .i64 ke, .int .i64 kf, .slice kp kn kq])
  have c0_1 : (w.alloc (.cells #[.int .i64 ka, .int .i64 kb, .int .i64 kc, .int .i64 kd, .int .i64 ke, .int .i64 kf, .slice kp kn kq] 25)).cell? ⟨w.heap.size, 0, none⟩ = some (.int .i64 ka) := C_1.out.cell 0
  have c1_1 : (w.alloc (.cells #[.int .i64 ka, .int .i64 kb, .int .i64 kc, .int .i64 kd, .int .i64 ke, .int .i64 kf, .slice kp kn kq] 25)).cell? ⟨w.heap.size, 1, none⟩ = some (.int .i64 kb) := C_1.out.cell 1
  have c2_1 : (w.alloc (.cells #[.int .i64 ka, .int .i64 kb, .int .i64 kc, .int .i64 kd, .int .i64 ke, .int .i64 kf, .slice kp kn kq] 25)).cell? ⟨w.heap.size, 2, none⟩ = some (.int .i64 kc) := C_1.out.cell 2
  have c3_1 : (w.alloc (.cells #[.int .i64 ka, .int .i64 kb, .int .i64 kc, .int .i64 kd, .int .i64 ke, .int .i64 kf, .slice kp kn kq] 25)).cell? ⟨w.heap.size, 3, none⟩ = some (.int .i64 kd) := C_1.out.cell 3
  have c4_1 : (w.alloc (.cells #[.int .i64 ka, .int .i64 kb, .int .i64 kc, .int .i64 kd, .int .i64 ke, .int .i64 kf, .slice kp kn kq] 25)).cell? ⟨w.heap.size, 4, none⟩ = some (.int .i64 ke) := C_1.out.cell 4
  have c5_1 : (w.alloc (.cells #[.int .i64 ka, .int .i64 kb, .int .i64 kc, .int .i64 kd, .int .i64 ke, .int .i64 kf, .slice kp kn kq] 25)).cell? ⟨w.heap.size, 5, none⟩ = some (.int .i64 kf) := C_1.out.cell 5
  have c6_1 : (w.alloc (.cells #[.int .i64 ka, .int .i64 kb, .int .i64 kc, .int .i64 kd, .int .i64 ke, .int .i64 kf, .slice kp kn kq] 25)).cell? ⟨w.heap.size, 6, none⟩ = some (.slice kp kn kq) := C_1.out.cell 6
  go_enter Tryd.func6, Tryd.ntmps6
  go_wp2_with fail
  refine (RR.out _ R_1.out).mono ?_
  rintro e w2 ⟨rfl, hb⟩
  clear c0_1 c1_1 c2_1 c3_1 c4_1 c5_1 c6_1
  have B_2 := Lib.hid (B_1.out.trans (hb.mono B_1.out.size))
  have R_2 := Lib.hid (Tabl.on R_1.out hb)
  have C_2 := Lib.hid (C_1.out.below hb C_1.out.lt)
  clear B_1 R_1 C_1
  clear hb 
  go_wp2
  go_ret2
  exact ⟨rfl, B_2.out⟩
set_option maxRecDepth 100000 in
set_option maxHeartbeats 16000000 in
theorem penc_yes (y : Cv) (w : World) (hr : Tabl w) (hB : Bt w y) (hn : y.n ≤ 1000000) (h : rightB y.x = true) : Calls Tryd.prog 6 #[cval y] w fun e w' => (∃ q d, e = .returned (.tuple #[.slice q (raw y.x).length d, .int .i64 0]) ∧ (raw y.x).length ≤ d ∧ At w' q (raw y.x).length (raw y.x)) ∧ Below w.heap.size w w' := by
  have RR := Lib.hid (fun W hW => pright_any y W hW hB.len hn)
  rw [h] at RR
  have N := Lib.hid (fun W hW => pnum_any y.x.kind W hW)
  have M := Lib.hid (fun W => pnumbers_any y W)
  obtain ⟨h1, h2, h3, _⟩ := right_iff.1 h
  have hk := cnt_yes h1
  have HRW := Lib.hid (show raw y.x = Oc.be 1 y.x.kind.toNat ++ (numsL y.x (cnt y.x.kind).toNat ++ if y.x.kind = 0 then Oc.be 4 y.x.bytes.length ++ y.x.bytes else []) from rfl)
  have HLT := Lib.hid (raw_lt h hB.1.2.1)
  have LE := (raw_le h).2
  have CB := (cnt_bd y.x.kind).2
  have NL := Lib.hid (nums_len y.x)
  have NN := Lib.hid (nums_next y.x)
  have UI := Lib.hid (fun i => u64_is (nth y.x i))
  have AT := Lib.hid hB.1
  have HL2 := Lib.hid h2
  clear h hB h3
  obtain ⟨⟨ka, kb, kc, kd, ke, kf, kl⟩, kp, kn, kq⟩ := y
  simp only [cval, five] at RR N M HRW LE CB NL NN UI AT HL2 HLT h1 hk ⊢
  obtain ⟨m, hm⟩ : ∃ m : Nat, cnt ka = (m : Int) := ⟨(cnt ka).toNat, by omega⟩
  rw [hm] at N CB h1 HRW
  simp only [Int.toNat_natCast] at HRW
  obtain ⟨kk, rfl⟩ : ∃ kk : Nat, ka = (kk : Int) := ⟨ka.toNat, by omega⟩
  simp only [Int.toNat_natCast] at HRW
  have hk2 : kk ≤ 15 := by omega
  have hk3 : ((kk : Nat) : Int) ≤ 15 := by omega
  have hm5 : m ≤ 5 := by omega
  clear hm h1 CB hk h2
  have B_0 := Lib.hid (Below.refl w.heap.size w)
  have R_0 := Lib.hid (hr)
  clear hr
  have B_1 := Lib.hid (B_0.out.alloc B_0.out.size (.cells #[.int .i64 ((kk : Nat) : Int), .int .i64 kb, .int .i64 kc, .int .i64 kd, .int .i64 ke, .int .i64 kf, .slice kp kn kq] 25))
  have R_1 := Lib.hid (Tabl.on R_0.out (alloc_below w (.cells #[.int .i64 ((kk : Nat) : Int), .int .i64 kb, .int .i64 kc, .int .i64 kd, .int .i64 ke, .int .i64 kf, .slice kp kn kq] 25)))
  clear B_0 R_0
  have C_1 := Lib.hid (Lies.new w 25 #[.int .i64 ((kk : Nat) : Int), .int .i64 kb, .int .i64 kc, .int .i64 kd, .int .i64 ke, .int .i64 kf, .slice kp kn kq])
  have c0_1 : (w.alloc (.cells #[.int .i64 ((kk : Nat) : Int), .int .i64 kb, .int .i64 kc, .int .i64 kd, .int .i64 ke, .int .i64 kf, .slice kp kn kq] 25)).cell? ⟨w.heap.size, 0, none⟩ = some (.int .i64 ((kk : Nat) : Int)) := C_1.out.cell 0
  have c1_1 : (w.alloc (.cells #[.int .i64 ((kk : Nat) : Int), .int .i64 kb, .int .i64 kc, .int .i64 kd, .int .i64 ke, .int .i64 kf, .slice kp kn kq] 25)).cell? ⟨w.heap.size, 1, none⟩ = some (.int .i64 kb) := C_1.out.cell 1
  have c2_1 : (w.alloc (.cells #[.int .i64 ((kk : Nat) : Int), .int .i64 kb, .int .i64 kc, .int .i64 kd, .int .i64 ke, .int .i64 kf, .slice kp kn kq] 25)).cell? ⟨w.heap.size, 2, none⟩ = some (.int .i64 kc) := C_1.out.cell 2
  have c3_1 : (w.alloc (.cells #[.int .i64 ((kk : Nat) : Int), .int .i64 kb, .int .i64 kc, .int .i64 kd, .int .i64 ke, .int .i64 kf, .slice kp kn kq] 25)).cell? ⟨w.heap.size, 3, none⟩ = some (.int .i64 kd) := C_1.out.cell 3
  have c4_1 : (w.alloc (.cells #[.int .i64 ((kk : Nat) : Int), .int .i64 kb, .int .i64 kc, .int .i64 kd, .int .i64 ke, .int .i64 kf, .slice kp kn kq] 25)).cell? ⟨w.heap.size, 4, none⟩ = some (.int .i64 ke) := C_1.out.cell 4
  have c5_1 : (w.alloc (.cells #[.int .i64 ((kk : Nat) : Int), .int .i64 kb, .int .i64 kc, .int .i64 kd, .int .i64 ke, .int .i64 kf, .slice kp kn kq] 25)).cell? ⟨w.heap.size, 5, none⟩ = some (.int .i64 kf) := C_1.out.cell 5
  have c6_1 : (w.alloc (.cells #[.int .i64 ((kk : Nat) : Int), .int .i64 kb, .int .i64 kc, .int .i64 kd, .int .i64 ke, .int .i64 kf, .slice kp kn kq] 25)).cell? ⟨w.heap.size, 6, none⟩ = some (.slice kp kn kq) := C_1.out.cell 6
  go_enter Tryd.func6, Tryd.ntmps6
  go_wp2_with fail
  refine (RR.out _ R_1.out).mono ?_
  rintro e w2 ⟨rfl, hb⟩
  clear c0_1 c1_1 c2_1 c3_1 c4_1 c5_1 c6_1
  have B_2 := Lib.hid (B_1.out.trans (hb.mono B_1.out.size))
  have R_2 := Lib.hid (Tabl.on R_1.out hb)
  have C_2 := Lib.hid (C_1.out.below hb C_1.out.lt)
  clear B_1 R_1 C_1
  clear hb RR
  have X1 := Lib.hid (C_2.out)
  have B1 := Lib.hid (B_2.out)
  have R1 := Lib.hid (R_2.out)
  have A1 := Lib.hid (AT.out.keep B1.out)
  clear B_2 C_2 R_2 AT
  go_wp2_with fail
  refine (Ob.new_any _).mono ?_
  rintro e w2' ⟨rfl, rfl⟩
  have P2 := Lib.hid (Ob.new_pw w2 w2.heap.size (Nat.le_refl _))
  have C2 := Lib.hid (alloc_below w2 (.cells #[.slice none 0 0, .int .i64 0] 65))
  obtain ⟨w3, hw3⟩ : ∃ w3, w2.alloc (.cells #[.slice none 0 0, .int .i64 0] 65) = w3 := ⟨_, rfl⟩
  rw [hw3] at P2 C2 ⊢
  clear hw3
  have u0 : IntKind.u64.wrap ((kk : Nat) : Int) = (kk : Int) := by simp [IntKind.wrap, IntKind.bits, IntKind.signed]; omega
  have x0 : w3.cell? ⟨w.heap.size, 0, none⟩ = some (.int .i64 ((kk : Nat) : Int)) := (X1.out.below C2.out X1.out.lt).cell 0
  go_wp2_with fail
  refine (Ob.num_any _ _ _ (some []) kk 1 _ P2.out (Ob.short_of (by simp))).mono ?_
  rintro e w4 ⟨rfl, hw⟩
  rw [wnum_one (by omega), List.nil_append] at hw
  obtain ⟨v4, p4, c4⟩ := Ob.wrote_below P2.out C2.out hw
  have P4 := Lib.hid (show Ob.PW w4 w2.heap.size w2.heap.size v4 (some (Oc.be 1 kk ++ numsL ⟨((kk : Nat) : Int), kb, kc, kd, ke, kf, kl⟩ 0)) from by
    rw [show numsL ⟨((kk : Nat) : Int), kb, kc, kd, ke, kf, kl⟩ 0 = [] from rfl, List.append_nil]
    exact p4)
  have C4 := Lib.hid c4
  clear x0 hw p4 c4 P2 C2 u0
  have x0 : w4.cell? ⟨w.heap.size, 0, none⟩ = some (.int .i64 ((kk : Nat) : Int)) := (X1.out.below C4.out X1.out.lt).cell 0
  have x1 : w4.cell? ⟨w.heap.size, 1, none⟩ = some (.int .i64 kb) := (X1.out.below C4.out X1.out.lt).cell 1
  have x2 : w4.cell? ⟨w.heap.size, 2, none⟩ = some (.int .i64 kc) := (X1.out.below C4.out X1.out.lt).cell 2
  have x3 : w4.cell? ⟨w.heap.size, 3, none⟩ = some (.int .i64 kd) := (X1.out.below C4.out X1.out.lt).cell 3
  have x4 : w4.cell? ⟨w.heap.size, 4, none⟩ = some (.int .i64 ke) := (X1.out.below C4.out X1.out.lt).cell 4
  have x5 : w4.cell? ⟨w.heap.size, 5, none⟩ = some (.int .i64 kf) := (X1.out.below C4.out X1.out.lt).cell 5
  have x6 : w4.cell? ⟨w.heap.size, 6, none⟩ = some (.slice kp kn kq) := (X1.out.below C4.out X1.out.lt).cell 6
  go_wp2_with fail
  refine (M.out _).mono ?_
  rintro e w5 ⟨rfl, hb⟩
  have P5 := Lib.hid (P4.out.below hb)
  have C5 := Lib.hid (C4.out.trans (hb.mono C4.out.size))
  have D6 := Lib.hid (Lies.new w5 42 #[.int .i64 kb, .int .i64 kc, .int .i64 kd, .int .i64 ke, .int .i64 kf])
  have hb6 := alloc_below w5 (.cells #[.int .i64 kb, .int .i64 kc, .int .i64 kd, .int .i64 ke, .int .i64 kf] 42)
  have P6 := Lib.hid (P5.out.below hb6)
  have C6 := Lib.hid (C5.out.trans (hb6.mono C5.out.size))
  have R6 := Lib.hid (R1.out.on C6.out)
  have HD := Lib.hid (show w2.heap.size ≤ w5.heap.size from C5.out.size)
  have HF := Lib.hid (fun (hh : Ob.Foot w2.heap.size v4 w5.heap.size) => (Nat.ne_of_lt (P5.out.foot hh).2 rfl : False))
  clear x0 x1 x2 x3 x4 x5 x6 hb hb6 P4 C4 P5 C5 M
  obtain ⟨w6, hw6⟩ : ∃ w6, w5.alloc (.cells #[.int .i64 kb, .int .i64 kc, .int .i64 kd, .int .i64 ke, .int .i64 kf] 42) = w6 := ⟨_, rfl⟩
  rw [hw6] at P6 C6 D6 R6
  have hw7 := Lib.hid hw6
  have x0 : w6.cell? ⟨w.heap.size, 0, none⟩ = some (.int .i64 ((kk : Nat) : Int)) := (X1.out.below C6.out X1.out.lt).cell 0
  go_wp2_with fail
  refine (N.out _ R6.out).mono ?_
  rintro e w7 ⟨rfl, hb⟩
  have P7 := Lib.hid (P6.out.below hb)
  have C7 := Lib.hid (C6.out.trans (hb.mono C6.out.size))
  have D7 := Lib.hid (D6.out.below hb D6.out.lt)
  clear x0 hb P6 C6 D6 R6 N hw6 hw7
  go_wp2_with fail
  go_loopw [21] (fun i wr => ∃ (k : Nat) (v : Value), k ≤ m ∧ i = .int .i64 k ∧ Hid (Ob.PW wr w2.heap.size w2.heap.size v (some (Oc.be 1 kk ++ numsL ⟨((kk : Nat) : Int), kb, kc, kd, ke, kf, kl⟩ k))) ∧ Hid (Below w2.heap.size w2 wr) ∧ Hid (Lies wr w5.heap.size 42 #[.int .i64 kb, .int .i64 kc, .int .i64 kd, .int .i64 ke, .int .i64 kf]) ∧ Hid (Ob.Foot w2.heap.size v w5.heap.size → False)) (fun i _ => m - (RowKit.intOf i).toNat)
  case atStart => exact ⟨0, v4, Nat.zero_le _, rfl, P7, C7, D7, HF⟩
  case round =>
    clear P7 C7 D7 HF
    obtain ⟨k, v, hkm, rfl, PR, CR, DR, FR⟩ := hrel
    have hk5 : (k : Int) ≤ 5 := by omega
    by_cases hlt : k < m
    · have hk3 : (k : Int) < (m : Int) := by omega
      have hk5 : k = 0 ∨ k = 1 ∨ k = 2 ∨ k = 3 ∨ k = 4 := by omega
      have NK := Lib.hid (NN.out k)
      have UK := Lib.hid (UI.out k)
      have SH := Lib.hid (Ob.short_of (l := Oc.be 1 kk ++ numsL ⟨((kk : Nat) : Int), kb, kc, kd, ke, kf, kl⟩ k) (n := 1000000) (by rw [List.length_append, Oc.be_length, NL.out]; omega))
      rcases hk5 with rfl | rfl | rfl | rfl | rfl
      · have d0 : wr.cell? ⟨w5.heap.size, 0, none⟩ = some (.int .i64 kb) := DR.out.cell 0
        have N0 := Lib.hid (show numsL ⟨((kk : Nat) : Int), kb, kc, kd, ke, kf, kl⟩ (0 + 1) = numsL ⟨((kk : Nat) : Int), kb, kc, kd, ke, kf, kl⟩ 0 ++ Oc.be 8 (u64 kb) from NK.out)
        have U0 := Lib.hid (show IntKind.u64.wrap kb = (u64 kb : Int) ∧ u64 kb < 18446744073709551616 from UK.out)
        go_wp2_with fail
        refine (Ob.int_any _ _ _ _ kb (u64 kb) _ PR.out U0.out.1 SH.out).mono ?_
        rintro e w8 ⟨rfl, hw⟩
        rw [wnum_int U0.out.2, List.append_assoc, ← N0.out] at hw
        obtain ⟨v8, p8, t8, o8⟩ := hw
        have D8 := Lib.hid (DR.out.turn t8 (fun hh => FR.out hh))
        have F8 := Lib.hid (fun (hh : Ob.Foot w2.heap.size v8 w5.heap.size) => show False from by
          rcases hh with hh | hh
          · exact FR.out (.inl hh)
          · rcases o8 _ hh with hh | hh
            · exact FR.out (.inr hh)
            · exact absurd DR.out.lt (by omega))
        have P8 := Lib.hid p8
        have C8 := Lib.hid (t8.below CR.out (Nat.le_trans PR.out.1 (Nat.le_of_lt (PR.out.foot (.inl rfl)).2)) (fun i hi => (PR.out.foot hi).1))
        clear t8 o8 p8 d0 PR CR NK UK N0 U0 SH DR FR
        go_wp2
        go_roundw
        case rel => exact ⟨0 + 1, v8, by omega, by go_num, P8, C8, D8, F8⟩
        case measure => simp [RowKit.intOf]; omega
      · have d0 : wr.cell? ⟨w5.heap.size, 1, none⟩ = some (.int .i64 kc) := DR.out.cell 1
        have N1 := Lib.hid (show numsL ⟨((kk : Nat) : Int), kb, kc, kd, ke, kf, kl⟩ (1 + 1) = numsL ⟨((kk : Nat) : Int), kb, kc, kd, ke, kf, kl⟩ 1 ++ Oc.be 8 (u64 kc) from NK.out)
        have U1 := Lib.hid (show IntKind.u64.wrap kc = (u64 kc : Int) ∧ u64 kc < 18446744073709551616 from UK.out)
        go_wp2_with fail
        refine (Ob.int_any _ _ _ _ kc (u64 kc) _ PR.out U1.out.1 SH.out).mono ?_
        rintro e w8 ⟨rfl, hw⟩
        rw [wnum_int U1.out.2, List.append_assoc, ← N1.out] at hw
        obtain ⟨v8, p8, t8, o8⟩ := hw
        have D8 := Lib.hid (DR.out.turn t8 (fun hh => FR.out hh))
        have F8 := Lib.hid (fun (hh : Ob.Foot w2.heap.size v8 w5.heap.size) => show False from by
          rcases hh with hh | hh
          · exact FR.out (.inl hh)
          · rcases o8 _ hh with hh | hh
            · exact FR.out (.inr hh)
            · exact absurd DR.out.lt (by omega))
        have P8 := Lib.hid p8
        have C8 := Lib.hid (t8.below CR.out (Nat.le_trans PR.out.1 (Nat.le_of_lt (PR.out.foot (.inl rfl)).2)) (fun i hi => (PR.out.foot hi).1))
        clear t8 o8 p8 d0 PR CR NK UK N1 U1 SH DR FR
        go_wp2
        go_roundw
        case rel => exact ⟨1 + 1, v8, by omega, by go_num, P8, C8, D8, F8⟩
        case measure => simp [RowKit.intOf]; omega
      · have d0 : wr.cell? ⟨w5.heap.size, 2, none⟩ = some (.int .i64 kd) := DR.out.cell 2
        have N2 := Lib.hid (show numsL ⟨((kk : Nat) : Int), kb, kc, kd, ke, kf, kl⟩ (2 + 1) = numsL ⟨((kk : Nat) : Int), kb, kc, kd, ke, kf, kl⟩ 2 ++ Oc.be 8 (u64 kd) from NK.out)
        have U2 := Lib.hid (show IntKind.u64.wrap kd = (u64 kd : Int) ∧ u64 kd < 18446744073709551616 from UK.out)
        go_wp2_with fail
        refine (Ob.int_any _ _ _ _ kd (u64 kd) _ PR.out U2.out.1 SH.out).mono ?_
        rintro e w8 ⟨rfl, hw⟩
        rw [wnum_int U2.out.2, List.append_assoc, ← N2.out] at hw
        obtain ⟨v8, p8, t8, o8⟩ := hw
        have D8 := Lib.hid (DR.out.turn t8 (fun hh => FR.out hh))
        have F8 := Lib.hid (fun (hh : Ob.Foot w2.heap.size v8 w5.heap.size) => show False from by
          rcases hh with hh | hh
          · exact FR.out (.inl hh)
          · rcases o8 _ hh with hh | hh
            · exact FR.out (.inr hh)
            · exact absurd DR.out.lt (by omega))
        have P8 := Lib.hid p8
        have C8 := Lib.hid (t8.below CR.out (Nat.le_trans PR.out.1 (Nat.le_of_lt (PR.out.foot (.inl rfl)).2)) (fun i hi => (PR.out.foot hi).1))
        clear t8 o8 p8 d0 PR CR NK UK N2 U2 SH DR FR
        go_wp2
        go_roundw
        case rel => exact ⟨2 + 1, v8, by omega, by go_num, P8, C8, D8, F8⟩
        case measure => simp [RowKit.intOf]; omega
      · have d0 : wr.cell? ⟨w5.heap.size, 3, none⟩ = some (.int .i64 ke) := DR.out.cell 3
        have N3 := Lib.hid (show numsL ⟨((kk : Nat) : Int), kb, kc, kd, ke, kf, kl⟩ (3 + 1) = numsL ⟨((kk : Nat) : Int), kb, kc, kd, ke, kf, kl⟩ 3 ++ Oc.be 8 (u64 ke) from NK.out)
        have U3 := Lib.hid (show IntKind.u64.wrap ke = (u64 ke : Int) ∧ u64 ke < 18446744073709551616 from UK.out)
        go_wp2_with fail
        refine (Ob.int_any _ _ _ _ ke (u64 ke) _ PR.out U3.out.1 SH.out).mono ?_
        rintro e w8 ⟨rfl, hw⟩
        rw [wnum_int U3.out.2, List.append_assoc, ← N3.out] at hw
        obtain ⟨v8, p8, t8, o8⟩ := hw
        have D8 := Lib.hid (DR.out.turn t8 (fun hh => FR.out hh))
        have F8 := Lib.hid (fun (hh : Ob.Foot w2.heap.size v8 w5.heap.size) => show False from by
          rcases hh with hh | hh
          · exact FR.out (.inl hh)
          · rcases o8 _ hh with hh | hh
            · exact FR.out (.inr hh)
            · exact absurd DR.out.lt (by omega))
        have P8 := Lib.hid p8
        have C8 := Lib.hid (t8.below CR.out (Nat.le_trans PR.out.1 (Nat.le_of_lt (PR.out.foot (.inl rfl)).2)) (fun i hi => (PR.out.foot hi).1))
        clear t8 o8 p8 d0 PR CR NK UK N3 U3 SH DR FR
        go_wp2
        go_roundw
        case rel => exact ⟨3 + 1, v8, by omega, by go_num, P8, C8, D8, F8⟩
        case measure => simp [RowKit.intOf]; omega
      · have d0 : wr.cell? ⟨w5.heap.size, 4, none⟩ = some (.int .i64 kf) := DR.out.cell 4
        have N4 := Lib.hid (show numsL ⟨((kk : Nat) : Int), kb, kc, kd, ke, kf, kl⟩ (4 + 1) = numsL ⟨((kk : Nat) : Int), kb, kc, kd, ke, kf, kl⟩ 4 ++ Oc.be 8 (u64 kf) from NK.out)
        have U4 := Lib.hid (show IntKind.u64.wrap kf = (u64 kf : Int) ∧ u64 kf < 18446744073709551616 from UK.out)
        go_wp2_with fail
        refine (Ob.int_any _ _ _ _ kf (u64 kf) _ PR.out U4.out.1 SH.out).mono ?_
        rintro e w8 ⟨rfl, hw⟩
        rw [wnum_int U4.out.2, List.append_assoc, ← N4.out] at hw
        obtain ⟨v8, p8, t8, o8⟩ := hw
        have D8 := Lib.hid (DR.out.turn t8 (fun hh => FR.out hh))
        have F8 := Lib.hid (fun (hh : Ob.Foot w2.heap.size v8 w5.heap.size) => show False from by
          rcases hh with hh | hh
          · exact FR.out (.inl hh)
          · rcases o8 _ hh with hh | hh
            · exact FR.out (.inr hh)
            · exact absurd DR.out.lt (by omega))
        have P8 := Lib.hid p8
        have C8 := Lib.hid (t8.below CR.out (Nat.le_trans PR.out.1 (Nat.le_of_lt (PR.out.foot (.inl rfl)).2)) (fun i hi => (PR.out.foot hi).1))
        clear t8 o8 p8 d0 PR CR NK UK N4 U4 SH DR FR
        go_wp2
        go_roundw
        case rel => exact ⟨4 + 1, v8, by omega, by go_num, P8, C8, D8, F8⟩
        case measure => simp [RowKit.intOf]; omega
    · obtain rfl : k = m := by omega
      have x0 : wr.cell? ⟨w.heap.size, 0, none⟩ = some (.int .i64 ((kk : Nat) : Int)) := (X1.out.below CR.out X1.out.lt).cell 0
      by_cases h0 : kk = 0
      · subst h0
        have HR2 := HRW.out
        rw [if_pos (show (((0 : Nat) : Nat) : Int) = 0 from rfl)] at HR2
        have HR3 := Lib.hid HR2
        clear HR2
        have x6 : wr.cell? ⟨w.heap.size, 6, none⟩ = some (.slice kp kn kq) := (X1.out.below CR.out X1.out.lt).cell 6
        go_wp2_with fail
        refine (Ob.run_any _ _ _ _ kp kn kq kl _ PR.out (Ob.short_of (by rw [List.length_append, Oc.be_length, NL.out]; omega)) hn (A1.out.keep CR.out) (fun h0 a ha => Ob.src_far PR.out A1.out h0 a ha)).mono ?_
        rintro e w6' ⟨rfl, hw⟩
        rw [wrun_yes HL2.out, List.append_assoc, ← HR3.out] at hw
        obtain ⟨v6, p6, c6⟩ := Ob.wrote_below PR.out CR.out hw
        have D := Lib.hid (Ob.done_any _ _ _ _ _ p6 (Ob.short_of (by omega)))
        simp only [Ob.told, Ob.toldE, Option.getD_some, Option.isSome_some, if_true] at D
        have BE := Lib.hid (B1.out.trans (c6.mono B1.out.size))
        clear p6 c6 HRW PR CR DR FR
        go_wp2_with fail
        refine D.out.mono ?_
        rintro e w9 ⟨q9, d9, rfl, hd9, hA9, hb9⟩
        have RES := Lib.hid (And.intro hd9 hA9)
        have B9 := Lib.hid (BE.out.trans (hb9.mono BE.out.size))
        clear hd9 hA9 hb9 D BE
        go_wp2
        go_ret2
        exact ⟨⟨q9, d9, rfl, RES.out.1, RES.out.2⟩, B9.out⟩
      · have t0 : (((kk : Nat) : Int) == 0) = false := by rw [beq_eq_false_iff_ne]; omega
        have HR2 := HRW.out
        rw [if_neg (by omega), List.append_nil] at HR2
        have p6 := PR.out
        have c6 := CR.out
        rw [← HR2] at p6
        clear HR2
        have D := Lib.hid (Ob.done_any _ _ _ _ _ p6 (Ob.short_of (by omega)))
        simp only [Ob.told, Ob.toldE, Option.getD_some, Option.isSome_some, if_true] at D
        have BE := Lib.hid (B1.out.trans (c6.mono B1.out.size))
        clear p6 c6 HRW PR CR DR FR
        go_wp2_with fail
        refine D.out.mono ?_
        rintro e w9 ⟨q9, d9, rfl, hd9, hA9, hb9⟩
        have RES := Lib.hid (And.intro hd9 hA9)
        have B9 := Lib.hid (BE.out.trans (hb9.mono BE.out.size))
        clear hd9 hA9 hb9 D BE
        go_wp2
        go_ret2
        exact ⟨⟨q9, d9, rfl, RES.out.1, RES.out.2⟩, B9.out⟩
theorem penc_any (y : Cv) (w : World) (hr : Tabl w) (hB : Bt w y) (hn : y.n ≤ 1000000) : Calls Tryd.prog 6 #[cval y] w (EncEnd w y.x) := by
  unfold EncEnd encL encE
  cases h : rightB y.x with
  | true =>
    rw [if_pos rfl, if_pos rfl]
    exact penc_yes y w hr hB hn h
  | false =>
    rw [if_neg Bool.false_ne_true, if_neg Bool.false_ne_true]
    exact (penc_no y w hr hB.len hn h).mono fun e w' he => ⟨⟨none, 0, he.1, Nat.le_refl _, at_nil w'⟩, he.2⟩
end Cm
end Go.Proofs.YtbahilakfgbgpaaDoor
