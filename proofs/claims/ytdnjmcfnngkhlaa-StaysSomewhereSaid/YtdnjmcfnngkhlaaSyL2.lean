/- The walk over the law of layer 9. Conditions: the contracts of package stays; the live question's answer; the list reads as steps. -/
import Derived.Test.YtdnjmcfnngkhlaaSyL1
namespace Go.Proofs.Ytdnjmcfnngkhlaa
open Go.RowKit

namespace Sy
/-- A step that came in: minutes, a zone. -/
structure St where
  on : Nat
  zone : Nat
def gcells (g : St) : List Value := [.int .u8 (g.on : Int), .int .u8 (g.zone : Int)]
theorem gcells_len (g : St) : (gcells g).length = 2 := rfl
def Small (g : St) : Prop := g.on < 256 ∧ g.zone < 256
set_option maxRecDepth 100000 in
set_option maxHeartbeats 4000000 in
theorem some_long (AL : ∀ W, Calls Try.prog 4 #[] W fun e w' => e = .returned (.bool true) ∧ Below W.heap.size W w') (p : Option Addr) (n c : Nat) (mi : Int) (w : World) (hn : 60 < n) (hbig : n ≤ 9223372036854775807) :
    Calls Try.prog 3 #[.slice p n c, .int .u16 mi] w fun e w' => e = .returned (.bool true) ∧ Below w.heap.size w w' := by
  have h1 : (60 : Int) < (n : Int) := by omega
  have AL := Lib.hid AL
  go_enter Try.func3, Try.ntmps3
  go_wp2_with fail
  refine (AL.out _).mono ?_
  rintro e w3 ⟨rfl, hb⟩
  go_wp2
  go_ret
  exact ⟨rfl, hb⟩
/-- What the first loop keeps. -/
structure Kept (w wr : World) (k : Nat) (q : Option Addr) (ns d : Nat) (now inn : Int) (S : List Sy) : Prop where
  row : Rw 3 scells wr q ns S
  cap : ns ≤ d
  inv : Inv S now inn
  few : ns ≤ k
  below : Below w.heap.size w wr
  now1 : now ≤ 255 * k
  inn0 : 0 ≤ inn
  inn3 : inn ≤ 3
theorem zone_V {S : List Sy} (h : Right S) (m : Int) : zoneV S m = zoneS S m := by
  unfold zoneV
  rw [if_pos (right_yes h)]
theorem minutes_V {S : List Sy} (h : Right S) (m : Nat) : minutesV S (m : Int) = cntS S m := by
  unfold minutesV
  rw [if_pos (right_yes h), minutes_cnt h]
theorem cnt_bd (S : List Sy) : ∀ j : Nat, 0 ≤ cntS S j ∧ cntS S j ≤ (j : Int)
  | 0 => ⟨Int.le_refl _, Int.le_refl _⟩
  | j + 1 => by
    have h := cnt_bd S j
    rw [cntS]
    split <;> omega
set_option maxRecDepth 100000 in
set_option maxHeartbeats 32000000 in
theorem some_yes (I : Face) (AL : ∀ W, Calls Try.prog 4 #[] W fun e w' => e = .returned (.bool true) ∧ Below W.heap.size W w') (p : Option Addr) (n c mi : Nat) (l : List St) (w : World) (hn : n ≤ 60) (hnc : n ≤ c) (hA : Rw 2 gcells w p n l) (hl : ∀ g ∈ l, Small g) (hmi : mi ≤ 65535) :
    Calls Try.prog 3 #[.slice p n c, .int .u16 (mi : Int)] w fun e w' => e = .returned (.bool true) ∧ Below w.heap.size w w' := by
  have h1 : (n : Int) ≤ 60 := by omega
  have t60 : decide ((60 : Int) < (n : Int)) = false := by simp; omega
  have hmi' : (mi : Int) ≤ 65535 := by omega
  have AL := Lib.hid AL
  have A0 := Lib.hid hA
  have HL := Lib.hid hA.1
  have HS := Lib.hid hl
  clear hA hl
  go_enter Try.func3, Try.ntmps3
  go_wp2_with fail
  have K0 : Hid (Kept w w 0 none 0 0 0 0 []) := Lib.hid ⟨rw_nil w, Nat.le_refl _, inv_start, Nat.le_refl _, Below.refl _ _, by decide, by decide, by decide⟩
  go_loopw [5, 6, 7, 8] (fun v vn vi i wr => ∃ (k ns : Nat) (S : List Sy) (now inn : Int), k ≤ n ∧ i = .int .i64 k ∧ vn = .int .i64 now ∧ vi = .int .i64 inn ∧ (∃ q d, v = .slice q ns d ∧ Hid (Kept w wr k q ns d now inn S))) (fun _ _ _ i _ => n - (intOf i).toNat)
  case atStart => exact ⟨0, 0, [], 0, 0, Nat.zero_le _, rfl, rfl, rfl, none, 0, rfl, K0⟩
  case round =>
    clear K0
    obtain ⟨k, ns, S, now, inn, hk, rfl, rfl, rfl, q, d, rfl, HK⟩ := hrel
    by_cases hlt : k < n
    · obtain ⟨g, hg⟩ : ∃ g, l[k]? = some g := ⟨_, List.getElem?_eq_getElem (by rw [HL.out]; exact hlt)⟩
      obtain ⟨bk, o, rfl, hc⟩ := (A0.out.keep gcells_len HK.out.below).2 (Nat.lt_of_le_of_lt (Nat.zero_le _) hlt)
      have e0 : wr.cell? ⟨bk, o + k * 2, none⟩ = some (.int .u8 (g.on : Int)) := hc k g hg 0 (by decide)
      have e1 : wr.cell? ⟨bk, o + k * 2 + 1, none⟩ = some (.int .u8 (g.zone : Int)) := hc k g hg 1 (by decide)
      have hk3 : (k : Int) < (n : Int) := by omega
      have hsm := HS.out g (List.mem_of_getElem? hg)
      have g0 : (g.on : Int) ≤ 255 := by have := hsm.1; omega
      have g1 : (g.zone : Int) ≤ 255 := by have := hsm.2; omega
      have n0 := HK.out.inv.now0
      have n1 := HK.out.now1
      have i0 := HK.out.inn0
      have i3 := HK.out.inn3
      obtain ⟨z, hz⟩ : ∃ z : Int, (g.zone : Int) % 4 = z := ⟨_, rfl⟩
      have z0 : 0 ≤ z := by omega
      have z3 : z ≤ 3 := by omega
      obtain ⟨N, hN⟩ : ∃ N : Int, now + (g.on : Int) = N := ⟨_, rfl⟩
      have N0 : 0 ≤ N := by omega
      have N1 : N ≤ 255 * (k + 1 : Nat) := by omega
      have N2 : N ≤ 15300 := by omega
      have HJ : Hid (Inv S N inn) := Lib.hid (hN ▸ inv_on HK.out.inv (by omega))
      have hns : ns ≤ 60 := by have := HK.out.few; omega
      have NS1 := Lib.hid hns
      clear hc hg hsm
      clear hns
      by_cases hz1 : 1 ≤ z
      · have tz0 : (z == 0) = false := by rw [beq_eq_false_iff_ne]; omega
        have tz1 : 0 < z := by omega
        by_cases hi : 0 < inn
        · have hmay := (inv_may HJ.out).2 (.inl hi)
          have hgood := inv_enter HJ.out hmay hz1
          have FE : (goS (untilS S N) z N).length ≤ k + 1 := by
            have a1 := go_len (untilS S N) z N
            have a2 := until_len S N
            have a3 := HK.out.row.1
            have a4 := HK.out.few
            omega
          have EN := Lib.hid (I.enter q ns d S z N wr HK.out.row (by have := NS1.out; omega) HK.out.cap hmay hz1)
          generalize goS (untilS S N) z N = L at *
          have HI := Lib.hid hgood.1
          have HZ := Lib.hid hgood.2
          have FEW := Lib.hid FE
          clear hgood FE hmay
          go_wp2_with fail
          refine EN.out.mono ?_
          rintro e w1 ⟨v, rfl, ho, hb⟩
          obtain ⟨qn, cn, rfl, hcn, hrl⟩ := rw_own scells_len ho
          have RL := Lib.hid hrl
          have HCN := Lib.hid hcn
          have RS := Lib.hid (HK.out.row.keep scells_len hb)
          have BB := Lib.hid (HK.out.below.trans (hb.mono HK.out.below.size))
          clear ho hrl hb EN e0 e1 hcn
          have RI := Lib.hid HI.out.right
          have RSI := Lib.hid HJ.out.right
          have ZN0 := (fun W (h : Rw 3 scells W qn L.length L) => I.zone qn _ cn L (mi : Int) W h (by have := FEW.out; omega))
          have ZS0 := (fun W (h : Rw 3 scells W q ns S) => I.zone q ns d S (mi : Int) W h (by have := NS1.out; omega))
          have RN0 := (fun W (h : Rw 3 scells W qn L.length L) => I.right qn _ cn L W h (by have := FEW.out; omega))
          rw [right_yes RI.out] at RN0
          rw [zone_V RI.out, HZ.out (mi : Int)] at ZN0
          rw [zone_V RSI.out] at ZS0
          have RN := Lib.hid RN0
          clear RN0
          by_cases hm : (mi : Int) < N
          · rw [if_pos hm] at ZN0
            have ZN := Lib.hid ZN0
            have ZS := Lib.hid ZS0
            clear ZN0 ZS0
            generalize zoneS S (mi : Int) = zs at *
            have tz : (zs == zs) = true := by simp
            go_wp2_with fail
            refine (ZN.out _ RL.out).mono ?_
            rintro e wa ⟨rfl, hba⟩
            have RLa := Lib.hid (RL.out.keep scells_len hba)
            have RSa := Lib.hid (RS.out.keep scells_len hba)
            have Ba := Lib.hid (BB.out.trans (hba.mono BB.out.size))
            clear hba RL RS BB
            go_wp2_with fail
            refine (ZS.out _ RSa.out).mono ?_
            rintro e wb ⟨rfl, hbb⟩
            have RLb := Lib.hid (RLa.out.keep scells_len hbb)
            have Bb := Lib.hid (Ba.out.trans (hbb.mono Ba.out.size))
            clear hbb RLa RSa Ba ZS
            go_wp2_with fail
            refine (RN.out _ RLb.out).mono ?_
            rintro e wd ⟨rfl, hbd⟩
            have KK : Hid (Kept w wd (k + 1) qn L.length cn N z L) := Lib.hid ⟨RLb.out.keep scells_len hbd, HCN.out, HI.out, FEW.out, Bb.out.trans (hbd.mono Bb.out.size), N1, by omega, by omega⟩
            clear hbd RLb Bb RN ZN
            go_wp2
            go_roundw
            case rel => exact ⟨k + 1, L.length, L, N, z, by omega, by go_num, rfl, rfl, qn, cn, rfl, KK⟩
            case measure => simp [intOf]; omega
          · rw [if_neg hm] at ZN0
            have ZN := Lib.hid ZN0
            have ZS := Lib.hid ZS0
            clear ZN0 ZS0
            generalize zoneS S (mi : Int) = zs at *
            have hm' : N ≤ (mi : Int) := by omega
            have tz : (z != z) = false := by simp
            clear hm
            go_wp2_with fail
            refine (ZN.out _ RL.out).mono ?_
            rintro e wa ⟨rfl, hba⟩
            have RLa := Lib.hid (RL.out.keep scells_len hba)
            have RSa := Lib.hid (RS.out.keep scells_len hba)
            have Ba := Lib.hid (BB.out.trans (hba.mono BB.out.size))
            clear hba RL RS BB
            go_wp2_with fail
            refine (ZS.out _ RSa.out).mono ?_
            rintro e wb ⟨rfl, hbb⟩
            have RLb := Lib.hid (RLa.out.keep scells_len hbb)
            have Bb := Lib.hid (Ba.out.trans (hbb.mono Ba.out.size))
            clear hbb RLa RSa Ba ZS
            go_wp2_with fail
            refine (ZN.out _ RLb.out).mono ?_
            rintro e wc ⟨rfl, hbc⟩
            have RLc := Lib.hid (RLb.out.keep scells_len hbc)
            have Bc := Lib.hid (Bb.out.trans (hbc.mono Bb.out.size))
            clear hbc RLb Bb
            go_wp2_with fail
            refine (RN.out _ RLc.out).mono ?_
            rintro e wd ⟨rfl, hbd⟩
            have KK : Hid (Kept w wd (k + 1) qn L.length cn N z L) := Lib.hid ⟨RLc.out.keep scells_len hbd, HCN.out, HI.out, FEW.out, Bc.out.trans (hbd.mono Bc.out.size), N1, by omega, by omega⟩
            clear hbd RLc Bc RN ZN
            go_wp2
            go_roundw
            case rel => exact ⟨k + 1, L.length, L, N, z, by omega, by go_num, rfl, rfl, qn, cn, rfl, KK⟩
            case measure => simp [intOf]; omega
        · have hin : inn ≤ 0 := by omega
          rcases ends_of S with hS | ⟨A, x, hS⟩
          · have hmay := (inv_may HJ.out).2 (.inr (.inl hS))
            have hns0 : ns = 0 := by rw [← HK.out.row.1, hS]; rfl
            subst hns0
            clear hS
            have hgood := inv_enter HJ.out hmay hz1
            have FE : (goS (untilS S N) z N).length ≤ k + 1 := by
              have a1 := go_len (untilS S N) z N
              have a2 := until_len S N
              have a3 := HK.out.row.1
              have a4 := HK.out.few
              omega
            have EN := Lib.hid (I.enter q 0 d S z N wr HK.out.row (by have := NS1.out; omega) HK.out.cap hmay hz1)
            generalize goS (untilS S N) z N = L at *
            have HI := Lib.hid hgood.1
            have HZ := Lib.hid hgood.2
            have FEW := Lib.hid FE
            clear hgood FE hmay
            go_wp2_with fail
            refine EN.out.mono ?_
            rintro e w1 ⟨v, rfl, ho, hb⟩
            obtain ⟨qn, cn, rfl, hcn, hrl⟩ := rw_own scells_len ho
            have RL := Lib.hid hrl
            have HCN := Lib.hid hcn
            have RS := Lib.hid (HK.out.row.keep scells_len hb)
            have BB := Lib.hid (HK.out.below.trans (hb.mono HK.out.below.size))
            clear ho hrl hb EN e0 e1 hcn
            have RI := Lib.hid HI.out.right
            have RSI := Lib.hid HJ.out.right
            have ZN0 := (fun W (h : Rw 3 scells W qn L.length L) => I.zone qn _ cn L (mi : Int) W h (by have := FEW.out; omega))
            have ZS0 := (fun W (h : Rw 3 scells W q 0 S) => I.zone q 0 d S (mi : Int) W h (by have := NS1.out; omega))
            have RN0 := (fun W (h : Rw 3 scells W qn L.length L) => I.right qn _ cn L W h (by have := FEW.out; omega))
            rw [right_yes RI.out] at RN0
            rw [zone_V RI.out, HZ.out (mi : Int)] at ZN0
            rw [zone_V RSI.out] at ZS0
            have RN := Lib.hid RN0
            clear RN0
            by_cases hm : (mi : Int) < N
            · rw [if_pos hm] at ZN0
              have ZN := Lib.hid ZN0
              have ZS := Lib.hid ZS0
              clear ZN0 ZS0
              generalize zoneS S (mi : Int) = zs at *
              have tz : (zs == zs) = true := by simp
              go_wp2_with fail
              refine (ZN.out _ RL.out).mono ?_
              rintro e wa ⟨rfl, hba⟩
              have RLa := Lib.hid (RL.out.keep scells_len hba)
              have RSa := Lib.hid (RS.out.keep scells_len hba)
              have Ba := Lib.hid (BB.out.trans (hba.mono BB.out.size))
              clear hba RL RS BB
              go_wp2_with fail
              refine (ZS.out _ RSa.out).mono ?_
              rintro e wb ⟨rfl, hbb⟩
              have RLb := Lib.hid (RLa.out.keep scells_len hbb)
              have Bb := Lib.hid (Ba.out.trans (hbb.mono Ba.out.size))
              clear hbb RLa RSa Ba ZS
              go_wp2_with fail
              refine (RN.out _ RLb.out).mono ?_
              rintro e wd ⟨rfl, hbd⟩
              have KK : Hid (Kept w wd (k + 1) qn L.length cn N z L) := Lib.hid ⟨RLb.out.keep scells_len hbd, HCN.out, HI.out, FEW.out, Bb.out.trans (hbd.mono Bb.out.size), N1, by omega, by omega⟩
              clear hbd RLb Bb RN ZN
              go_wp2
              go_roundw
              case rel => exact ⟨k + 1, L.length, L, N, z, by omega, by go_num, rfl, rfl, qn, cn, rfl, KK⟩
              case measure => simp [intOf]; omega
            · rw [if_neg hm] at ZN0
              have ZN := Lib.hid ZN0
              have ZS := Lib.hid ZS0
              clear ZN0 ZS0
              generalize zoneS S (mi : Int) = zs at *
              have hm' : N ≤ (mi : Int) := by omega
              have tz : (z != z) = false := by simp
              clear hm
              go_wp2_with fail
              refine (ZN.out _ RL.out).mono ?_
              rintro e wa ⟨rfl, hba⟩
              have RLa := Lib.hid (RL.out.keep scells_len hba)
              have RSa := Lib.hid (RS.out.keep scells_len hba)
              have Ba := Lib.hid (BB.out.trans (hba.mono BB.out.size))
              clear hba RL RS BB
              go_wp2_with fail
              refine (ZS.out _ RSa.out).mono ?_
              rintro e wb ⟨rfl, hbb⟩
              have RLb := Lib.hid (RLa.out.keep scells_len hbb)
              have Bb := Lib.hid (Ba.out.trans (hbb.mono Ba.out.size))
              clear hbb RLa RSa Ba ZS
              go_wp2_with fail
              refine (ZN.out _ RLb.out).mono ?_
              rintro e wc ⟨rfl, hbc⟩
              have RLc := Lib.hid (RLb.out.keep scells_len hbc)
              have Bc := Lib.hid (Bb.out.trans (hbc.mono Bb.out.size))
              clear hbc RLb Bb
              go_wp2_with fail
              refine (RN.out _ RLc.out).mono ?_
              rintro e wd ⟨rfl, hbd⟩
              have KK : Hid (Kept w wd (k + 1) qn L.length cn N z L) := Lib.hid ⟨RLc.out.keep scells_len hbd, HCN.out, HI.out, FEW.out, Bc.out.trans (hbd.mono Bc.out.size), N1, by omega, by omega⟩
              clear hbd RLc Bc RN ZN
              go_wp2
              go_roundw
              case rel => exact ⟨k + 1, L.length, L, N, z, by omega, by go_num, rfl, rfl, qn, cn, rfl, KK⟩
              case measure => simp [intOf]; omega
          · have hlen : ns = A.length + 1 := by rw [← HK.out.row.1, hS]; simp
            subst hlen
            have hxl : S.getLast? = some x := by rw [hS, List.getLast?_concat]
            have hxa : S[A.length]? = some x := by rw [hS]; simp
            have HXA := Lib.hid hxa
            clear hxa
            by_cases hx : x.to = N
            · have hmay := (inv_may HJ.out).2 (.inr (.inr ⟨x, hxl, hx⟩))
              clear hxl hS
              have hgood := inv_enter HJ.out hmay hz1
              have FE : (goS (untilS S N) z N).length ≤ k + 1 := by
                have a1 := go_len (untilS S N) z N
                have a2 := until_len S N
                have a3 := HK.out.row.1
                have a4 := HK.out.few
                omega
              have EN := Lib.hid (I.enter q (A.length + 1) d S z N wr HK.out.row (by have := NS1.out; omega) HK.out.cap hmay hz1)
              generalize goS (untilS S N) z N = L at *
              have HI := Lib.hid hgood.1
              have HZ := Lib.hid hgood.2
              have FEW := Lib.hid FE
              clear hgood FE hmay
              go_wp2_with fail
              refine EN.out.mono ?_
              rintro e w1 ⟨v, rfl, ho, hb⟩
              obtain ⟨qn, cn, rfl, hcn, hrl⟩ := rw_own scells_len ho
              have RL := Lib.hid hrl
              have HCN := Lib.hid hcn
              have RS := Lib.hid (HK.out.row.keep scells_len hb)
              have BB := Lib.hid (HK.out.below.trans (hb.mono HK.out.below.size))
              clear ho hrl hb EN e0 e1 hcn
              obtain ⟨bs, os, eq1, hcs⟩ := RS.out.2 (by omega)
              subst eq1
              have x2 : w1.cell? ⟨bs, os + A.length * 3 + 2, none⟩ = some (.int .i64 x.to) := hcs A.length x HXA.out 2 (by decide)
              have hw2 : IntKind.i64.wrap (((A.length + 1 : Nat) : Int) - 1) = (A.length : Int) := by rw [show ((A.length + 1 : Nat) : Int) - 1 = (A.length : Int) by omega]; exact IntWalk.i64_in _ (by have := NS1.out; omega)
              have tl0 : (((A.length + 1 : Nat) : Int) == 0) = false := by simp; omega
              have tl1 : ((A.length : Int) + 1 == 0) = false := by simp; omega
              have al : (A.length : Int) ≤ 60 := by have := NS1.out; omega
              clear hcs
              have tx : (x.to == N) = true := by simp [hx]
              clear hx
              have RI := Lib.hid HI.out.right
              have RSI := Lib.hid HJ.out.right
              have ZN0 := (fun W (h : Rw 3 scells W qn L.length L) => I.zone qn _ cn L (mi : Int) W h (by have := FEW.out; omega))
              have ZS0 := (fun W (h : Rw 3 scells W (some ⟨bs, os, none⟩) (A.length + 1) S) => I.zone (some ⟨bs, os, none⟩) (A.length + 1) d S (mi : Int) W h (by have := NS1.out; omega))
              have RN0 := (fun W (h : Rw 3 scells W qn L.length L) => I.right qn _ cn L W h (by have := FEW.out; omega))
              rw [right_yes RI.out] at RN0
              rw [zone_V RI.out, HZ.out (mi : Int)] at ZN0
              rw [zone_V RSI.out] at ZS0
              have RN := Lib.hid RN0
              clear RN0
              by_cases hm : (mi : Int) < N
              · rw [if_pos hm] at ZN0
                have ZN := Lib.hid ZN0
                have ZS := Lib.hid ZS0
                clear ZN0 ZS0
                generalize zoneS S (mi : Int) = zs at *
                have tz : (zs == zs) = true := by simp
                go_wp2_with fail
                refine (ZN.out _ RL.out).mono ?_
                rintro e wa ⟨rfl, hba⟩
                have RLa := Lib.hid (RL.out.keep scells_len hba)
                have RSa := Lib.hid (RS.out.keep scells_len hba)
                have Ba := Lib.hid (BB.out.trans (hba.mono BB.out.size))
                clear hba RL RS BB
                go_wp2_with fail
                refine (ZS.out _ RSa.out).mono ?_
                rintro e wb ⟨rfl, hbb⟩
                have RLb := Lib.hid (RLa.out.keep scells_len hbb)
                have Bb := Lib.hid (Ba.out.trans (hbb.mono Ba.out.size))
                clear hbb RLa RSa Ba ZS
                go_wp2_with fail
                refine (RN.out _ RLb.out).mono ?_
                rintro e wd ⟨rfl, hbd⟩
                have KK : Hid (Kept w wd (k + 1) qn L.length cn N z L) := Lib.hid ⟨RLb.out.keep scells_len hbd, HCN.out, HI.out, FEW.out, Bb.out.trans (hbd.mono Bb.out.size), N1, by omega, by omega⟩
                clear hbd RLb Bb RN ZN
                go_wp2
                go_roundw
                case rel => exact ⟨k + 1, L.length, L, N, z, by omega, by go_num, rfl, rfl, qn, cn, rfl, KK⟩
                case measure => simp [intOf]; omega
              · rw [if_neg hm] at ZN0
                have ZN := Lib.hid ZN0
                have ZS := Lib.hid ZS0
                clear ZN0 ZS0
                generalize zoneS S (mi : Int) = zs at *
                have hm' : N ≤ (mi : Int) := by omega
                have tz : (z != z) = false := by simp
                clear hm
                go_wp2_with fail
                refine (ZN.out _ RL.out).mono ?_
                rintro e wa ⟨rfl, hba⟩
                have RLa := Lib.hid (RL.out.keep scells_len hba)
                have RSa := Lib.hid (RS.out.keep scells_len hba)
                have Ba := Lib.hid (BB.out.trans (hba.mono BB.out.size))
                clear hba RL RS BB
                go_wp2_with fail
                refine (ZS.out _ RSa.out).mono ?_
                rintro e wb ⟨rfl, hbb⟩
                have RLb := Lib.hid (RLa.out.keep scells_len hbb)
                have Bb := Lib.hid (Ba.out.trans (hbb.mono Ba.out.size))
                clear hbb RLa RSa Ba ZS
                go_wp2_with fail
                refine (ZN.out _ RLb.out).mono ?_
                rintro e wc ⟨rfl, hbc⟩
                have RLc := Lib.hid (RLb.out.keep scells_len hbc)
                have Bc := Lib.hid (Bb.out.trans (hbc.mono Bb.out.size))
                clear hbc RLb Bb
                go_wp2_with fail
                refine (RN.out _ RLc.out).mono ?_
                rintro e wd ⟨rfl, hbd⟩
                have KK : Hid (Kept w wd (k + 1) qn L.length cn N z L) := Lib.hid ⟨RLc.out.keep scells_len hbd, HCN.out, HI.out, FEW.out, Bc.out.trans (hbd.mono Bc.out.size), N1, by omega, by omega⟩
                clear hbd RLc Bc RN ZN
                go_wp2
                go_roundw
                case rel => exact ⟨k + 1, L.length, L, N, z, by omega, by go_num, rfl, rfl, qn, cn, rfl, KK⟩
                case measure => simp [intOf]; omega
            · skip
              have hmay : ¬ (May S N ∧ 1 ≤ z) := fun hh => by
                rcases (inv_may HJ.out).1 hh.1 with h9 | h9 | ⟨x', h9, h8⟩
                · exact hi h9
                · rw [h9] at hS
                  simp at hS
                · rw [hxl] at h9
                  rw [← Option.some.inj h9] at h8
                  exact hx h8
              have EN := Lib.hid (I.enter_no q (A.length + 1) d S z N wr HK.out.row (by have := NS1.out; omega) hmay)
              clear hmay hxl hS
              have tx : (x.to == N) = false := by rw [beq_eq_false_iff_ne]; exact hx
              go_wp2_with fail
              refine EN.out.mono ?_
              rintro e w1 ⟨rfl, hb⟩
              have RS := Lib.hid (HK.out.row.keep scells_len hb)
              have BB := Lib.hid (HK.out.below.trans (hb.mono HK.out.below.size))
              clear hb EN e0 e1 hx
              obtain ⟨bs, os, eq1, hcs⟩ := RS.out.2 (by omega)
              subst eq1
              have x2 : w1.cell? ⟨bs, os + A.length * 3 + 2, none⟩ = some (.int .i64 x.to) := hcs A.length x HXA.out 2 (by decide)
              have hw2 : IntKind.i64.wrap (((A.length + 1 : Nat) : Int) - 1) = (A.length : Int) := by rw [show ((A.length + 1 : Nat) : Int) - 1 = (A.length : Int) by omega]; exact IntWalk.i64_in _ (by have := NS1.out; omega)
              have tl0 : (((A.length + 1 : Nat) : Int) == 0) = false := by simp; omega
              have tl1 : ((A.length : Int) + 1 == 0) = false := by simp; omega
              have al : (A.length : Int) ≤ 60 := by have := NS1.out; omega
              clear hcs
              have KK : Hid (Kept w w1 (k + 1) (some ⟨bs, os, none⟩) (A.length + 1) d N inn S) := Lib.hid ⟨RS.out, HK.out.cap, HJ.out, by have := HK.out.few; omega, BB.out, N1, i0, i3⟩
              go_wp2
              go_roundw
              case rel => exact ⟨k + 1, (A.length + 1), S, N, inn, by omega, by go_num, rfl, rfl, some ⟨bs, os, none⟩, d, rfl, KK⟩
              case measure => simp [intOf]; omega
      · have hz0 : z = 0 := by omega
        subst hz0
        have EN := Lib.hid (I.enter_no q ns d S 0 N wr HK.out.row (by have := NS1.out; omega) (fun hh => by have := hh.2; omega))
        go_wp2_with fail
        refine EN.out.mono ?_
        rintro e w1 ⟨rfl, hb⟩
        have RS1 := Lib.hid (HK.out.row.keep scells_len hb)
        have BB1 := Lib.hid (HK.out.below.trans (hb.mono HK.out.below.size))
        clear hb EN e0 e1
        by_cases hi : 0 < inn
        · skip
          obtain ⟨hmay, hI2, hZ2⟩ := inv_leave HJ.out hi
          have FE : (untilS S N).length ≤ k + 1 := by
            have a2 := until_len S N
            have a3 := HK.out.row.1
            have a4 := HK.out.few
            omega
          have LN := Lib.hid (I.leave q ns d S N w1 RS1.out (by have := NS1.out; omega) HK.out.cap hmay ((inv_goes HJ.out).2 hi))
          generalize untilS S N = L at *
          have HI := Lib.hid hI2
          have HZ := Lib.hid hZ2
          have FEW := Lib.hid FE
          clear hmay hI2 hZ2 FE
          go_wp2_with fail
          refine LN.out.mono ?_
          rintro e w2 ⟨v, rfl, ho, hb⟩
          obtain ⟨qn, cn, rfl, hcn, hrl⟩ := rw_own scells_len ho
          have RL := Lib.hid hrl
          have HCN := Lib.hid hcn
          have RS := Lib.hid (RS1.out.keep scells_len hb)
          have BB := Lib.hid (BB1.out.trans (hb.mono BB1.out.size))
          clear ho hrl hb LN RS1 BB1 hcn
          have RI := Lib.hid HI.out.right
          have RSI := Lib.hid HJ.out.right
          have ZN0 := (fun W (h : Rw 3 scells W qn L.length L) => I.zone qn _ cn L (mi : Int) W h (by have := FEW.out; omega))
          have ZS0 := (fun W (h : Rw 3 scells W q ns S) => I.zone q ns d S (mi : Int) W h (by have := NS1.out; omega))
          have RN0 := (fun W (h : Rw 3 scells W qn L.length L) => I.right qn _ cn L W h (by have := FEW.out; omega))
          rw [right_yes RI.out] at RN0
          rw [zone_V RI.out, HZ.out (mi : Int)] at ZN0
          rw [zone_V RSI.out] at ZS0
          have RN := Lib.hid RN0
          clear RN0
          by_cases hm : (mi : Int) < N
          · rw [if_pos hm] at ZN0
            have ZN := Lib.hid ZN0
            have ZS := Lib.hid ZS0
            clear ZN0 ZS0
            generalize zoneS S (mi : Int) = zs at *
            have tz : (zs == zs) = true := by simp
            go_wp2_with fail
            refine (ZN.out _ RL.out).mono ?_
            rintro e wa ⟨rfl, hba⟩
            have RLa := Lib.hid (RL.out.keep scells_len hba)
            have RSa := Lib.hid (RS.out.keep scells_len hba)
            have Ba := Lib.hid (BB.out.trans (hba.mono BB.out.size))
            clear hba RL RS BB
            go_wp2_with fail
            refine (ZS.out _ RSa.out).mono ?_
            rintro e wb ⟨rfl, hbb⟩
            have RLb := Lib.hid (RLa.out.keep scells_len hbb)
            have Bb := Lib.hid (Ba.out.trans (hbb.mono Ba.out.size))
            clear hbb RLa RSa Ba ZS
            go_wp2_with fail
            refine (RN.out _ RLb.out).mono ?_
            rintro e wd ⟨rfl, hbd⟩
            have KK : Hid (Kept w wd (k + 1) qn L.length cn N 0 L) := Lib.hid ⟨RLb.out.keep scells_len hbd, HCN.out, HI.out, FEW.out, Bb.out.trans (hbd.mono Bb.out.size), N1, by omega, by omega⟩
            clear hbd RLb Bb RN ZN
            go_wp2
            go_roundw
            case rel => exact ⟨k + 1, L.length, L, N, 0, by omega, by go_num, rfl, rfl, qn, cn, rfl, KK⟩
            case measure => simp [intOf]; omega
          · rw [if_neg hm] at ZN0
            have ZN := Lib.hid ZN0
            have ZS := Lib.hid ZS0
            clear ZN0 ZS0
            generalize zoneS S (mi : Int) = zs at *
            have hm' : N ≤ (mi : Int) := by omega
            have tz : (0 != 0) = false := by simp
            clear hm
            go_wp2_with fail
            refine (ZN.out _ RL.out).mono ?_
            rintro e wa ⟨rfl, hba⟩
            have RLa := Lib.hid (RL.out.keep scells_len hba)
            have RSa := Lib.hid (RS.out.keep scells_len hba)
            have Ba := Lib.hid (BB.out.trans (hba.mono BB.out.size))
            clear hba RL RS BB
            go_wp2_with fail
            refine (ZS.out _ RSa.out).mono ?_
            rintro e wb ⟨rfl, hbb⟩
            have RLb := Lib.hid (RLa.out.keep scells_len hbb)
            have Bb := Lib.hid (Ba.out.trans (hbb.mono Ba.out.size))
            clear hbb RLa RSa Ba ZS
            go_wp2_with fail
            refine (ZN.out _ RLb.out).mono ?_
            rintro e wc ⟨rfl, hbc⟩
            have RLc := Lib.hid (RLb.out.keep scells_len hbc)
            have Bc := Lib.hid (Bb.out.trans (hbc.mono Bb.out.size))
            clear hbc RLb Bb
            go_wp2_with fail
            refine (RN.out _ RLc.out).mono ?_
            rintro e wd ⟨rfl, hbd⟩
            have KK : Hid (Kept w wd (k + 1) qn L.length cn N 0 L) := Lib.hid ⟨RLc.out.keep scells_len hbd, HCN.out, HI.out, FEW.out, Bc.out.trans (hbd.mono Bc.out.size), N1, by omega, by omega⟩
            clear hbd RLc Bc RN ZN
            go_wp2
            go_roundw
            case rel => exact ⟨k + 1, L.length, L, N, 0, by omega, by go_num, rfl, rfl, qn, cn, rfl, KK⟩
            case measure => simp [intOf]; omega
        · skip
          have LN := Lib.hid (I.leave_no q ns d S N w1 RS1.out (by have := NS1.out; omega) (fun hh => hi ((inv_goes HJ.out).1 hh.2)))
          go_wp2_with fail
          refine LN.out.mono ?_
          rintro e w2 ⟨rfl, hb⟩
          have RS := Lib.hid (RS1.out.keep scells_len hb)
          have BB := Lib.hid (BB1.out.trans (hb.mono BB1.out.size))
          clear hb LN RS1 BB1
          have KK : Hid (Kept w w2 (k + 1) q ns d N inn S) := Lib.hid ⟨RS.out, HK.out.cap, HJ.out, by have := HK.out.few; omega, BB.out, N1, i0, i3⟩
          go_wp2
          go_roundw
          case rel => exact ⟨k + 1, ns, S, N, inn, by omega, by go_num, rfl, rfl, q, d, rfl, KK⟩
          case measure => simp [intOf]; omega
    · obtain rfl : k = n := by omega
      obtain ⟨M, hM, hM6⟩ : ∃ M : Nat, (mi : Int) % 600 = (M : Int) ∧ (M : Int) < 600 := ⟨mi % 600, by omega, by omega⟩
      have RSI := Lib.hid HK.out.inv.right
      have hns : ns ≤ 60 := by have := HK.out.few; omega
      have ZS0 := (fun (m : Int) W (h : Rw 3 scells W q ns S) => I.zone q ns d S m W h (by omega))
      have ZS := Lib.hid ZS0
      have MN := Lib.hid (fun W (h : Rw 3 scells W q ns S) => I.minutes q ns d S (M : Int) W h (by omega) HK.out.cap (by omega))
      have CB := Lib.hid (cnt_bd S)
      have KR := Lib.hid HK.out.row
      have KB := Lib.hid HK.out.below
      clear ZS0 HK A0 HL HS
      go_wp2_with fail
      go_loopw [15, 16] (fun vn vm wx => ∃ (j : Nat) (t : Int), j ≤ M ∧ vm = .int .i64 j ∧ vn = .int .i64 t ∧ Hid (t = cntS S j) ∧ Hid (Rw 3 scells wx q ns S) ∧ Hid (Below w.heap.size w wx)) (fun _ vm _ => M - (intOf vm).toNat)
      case atStart => exact ⟨0, 0, Nat.zero_le _, rfl, rfl, Lib.hid rfl, KR, KB⟩
      case round =>
        clear KR KB
        obtain ⟨j, t, hj, rfl, rfl, HT, KR, KB⟩ := hrel
        have t0 : 0 ≤ t := by have := (CB.out j).1; have := HT.out; omega
        have t1 : t ≤ (j : Int) := by have := (CB.out j).2; have := HT.out; omega
        by_cases hlt2 : j < M
        · have hj3 : (j : Int) < (M : Int) := by omega
          have ZC0 := ZS.out (j : Int) _ KR.out
          rw [zone_V RSI.out] at ZC0
          have ZC := Lib.hid ZC0
          have HN : Hid (cntS S (j + 1) = t + if 0 < zoneS S (j : Int) then 1 else 0) := Lib.hid (by rw [cntS, ← HT.out])
          clear ZC0
          generalize zoneS S (j : Int) = zs at *
          by_cases hz : 0 < zs
          · have HN2 : Hid (t + 1 = cntS S (j + 1)) := Lib.hid (by rw [HN.out, if_pos hz])
            go_wp2_with fail
            refine ZC.out.mono ?_
            rintro e wy ⟨rfl, hb⟩
            have KR2 := Lib.hid (KR.out.keep scells_len hb)
            have KB2 := Lib.hid (KB.out.trans (hb.mono KB.out.size))
            clear hb ZC KR KB HN
            go_wp2
            go_roundw
            case rel => exact ⟨j + 1, t + 1, by omega, by go_num, rfl, HN2, KR2, KB2⟩
            case measure => simp [intOf]; omega
          · have HN2 : Hid (t = cntS S (j + 1)) := Lib.hid (by rw [HN.out, if_neg hz, Int.add_zero])
            go_wp2_with fail
            refine ZC.out.mono ?_
            rintro e wy ⟨rfl, hb⟩
            have KR2 := Lib.hid (KR.out.keep scells_len hb)
            have KB2 := Lib.hid (KB.out.trans (hb.mono KB.out.size))
            clear hb ZC KR KB HN
            go_wp2
            go_roundw
            case rel => exact ⟨j + 1, t, by omega, by go_num, rfl, HN2, KR2, KB2⟩
            case measure => simp [intOf]; omega
        · obtain rfl : j = M := by omega
          have HE : Hid (minutesV S (j : Int) = t) := Lib.hid (by rw [minutes_V RSI.out, HT.out])
          go_wp2_with fail
          refine (AL.out _).mono ?_
          rintro e wy ⟨rfl, hb⟩
          have KR2 := Lib.hid (KR.out.keep scells_len hb)
          have KB2 := Lib.hid (KB.out.trans (hb.mono KB.out.size))
          clear hb KR KB
          go_wp2_with fail
          refine (MN.out _ KR2.out).mono ?_
          rintro e wz ⟨rfl, hb⟩
          rw [HE.out]
          have KB3 := Lib.hid (KB2.out.trans (hb.mono KB2.out.size))
          clear hb KR2 KB2
          go_wp2
          go_ret
          exact ⟨by simp, KB3.out⟩
end Sy
end Go.Proofs.Ytdnjmcfnngkhlaa
