/- Walks over the document's answer of layer 12: Move. No condition but those written. Walks over the document's answer of layer 12: Split. No condition but those written. Walks over the document's answer of layer 12: Merge. No condition but those written. Walks over the document's answer of layer 12: Put. No condition but those written. -/
import Derived.Test.YtkfmkchonlajpaaGreatQ05
import Derived.Deep.CutRange
import Derived.IntWalk
import Derived.Deep.RegionLaw
import Derived.Deep.AppendLies
import Derived.BigRegion
import Derived.StillTailTactics
import Derived.Maps.AppendAt
namespace Go.Proofs.YtkfmkchonlajpaaGreat
open Go.RowKit

namespace Lo
open Classical in
theorem move_none {Z : List Ms.Zn} {s : Stk} {id zone now : Int} (h : at_ id s.1 = none ∨ Ms.findK Ms.Zn.id zone Z = none) : moveS Z s id zone now = (5, s) := by
  unfold moveS
  rcases h with h | h
  · rw [h]
  · rw [h]
    cases at_ id s.1 <;> rfl
open Classical in
theorem move_some {Z : List Ms.Zn} {s : Stk} {id zone now : Int} {i : Nat} {x : Lt} {z : Ms.Zn} (h : at_ id s.1 = some i) (hx : s.1[i]? = some x) (hz : Ms.findK Ms.Zn.id zone Z = some z) :
    moveS Z s id zone now = if inL x = 0 then (8, s) else if inL x = zone then (0, s) else if z.room < loadL s.1 zone + x.units then (4, s)
      else if Sy.May x.stays now ∧ 1 ≤ zone then (0, (s.1.set i { x with stays := Sy.goS (Sy.untilS x.stays now) zone now }, s.2)) else (1, s) := by
  unfold moveS
  rw [h, hz]
  simp only [hx]
set_option maxRecDepth 100000 in
set_option maxHeartbeats 8000000 in
theorem rmove_none (B g Bm gm : Nat) (v vz vp : Value) (given : Int) (l : List Lv) (Z : List Ms.Zn) (P : List Ms.Pd) (id zone now : Int) (w : World) (h : RS w B g v given l) (hG : Good (lts l, given)) (hM : Ms.RM w Bm gm vz vp Z P) (hZ : Z.length ≤ 1000000) (hno : at_ id (lts l) = none ∨ Ms.findK Ms.Zn.id zone Z = none) :
    Calls Tryz.prog 29 #[.pointer (some ⟨g, 0, none⟩), .pointer (some ⟨gm, 0, none⟩), .int .i64 id, .int .i64 zone, .int .i64 now] w fun e w' => e = .returned (.int .i64 5) ∧ RAc2 w B g v (Bks l) (lts l, given) w' := by
  have hL : l.length ≤ 256 := by have := good_len hG; simpa [lts] using this
  have C := Lib.hid (rat_any B g v given l id w h (by omega))
  have HE := Lib.hid (fun W (hW : Below w.heap.size w W) => ract2_same h hW)
  have CZ := Lib.hid (Ms.rrowZ_any Bm gm vz vp Z P zone w hM hZ)
  have hcase : atI id (lts l) < 0 ∨ (∃ i, i ≤ 256 ∧ atI id (lts l) = ((i : Nat) : Int)) ∧ (Ms.getK (Ms.findK Ms.Zn.id zone Z) Ms.zn0).2 = 5 := by
    cases ha : at_ id (lts l) with
    | none => exact .inl (by rw [atI_none ha]; decide)
    | some i =>
      rcases hno with hno | hno
      · rw [ha] at hno
        cases hno
      · have := at_lt ha
        exact .inr ⟨⟨i, by simp only [lts, List.length_map] at this; omega, atI_some ha⟩, by rw [hno]; rfl⟩
  generalize Ms.getK (Ms.findK Ms.Zn.id zone Z) Ms.zn0 = gz at *
  obtain ⟨⟨za, zb, zc, zd, ze, zf⟩, ez⟩ := gz
  unfold Ms.zval at *
  simp only at CZ hcase
  generalize atI id (lts l) = ai at *
  clear h hM hG hno
  rcases hcase with hc | ⟨⟨i, hi, rfl⟩, rfl⟩
  · 
    go_enter Tryz.func29, Tryz.ntmps29
    go_wp2_with fail
    refine C.out.mono ?_
    rintro e w' ⟨rfl, rfl⟩
    go_wp2_with fail
    refine (CZ.out).mono ?_
    rintro e w1 ⟨rfl, hb⟩
    have B1 := Lib.hid (hb.alloc hb.size (.cells #[.int .i64 za, .int .i64 zb, .int .i64 zc, .int .i64 zd, .bool ze, .int .i64 zf] 61))
    clear hb
    go_wp2
    go_ret
    exact ⟨rfl, HE.out _ B1.out⟩
  · have hi0 : ¬ (i : Int) < 0 := by omega
    have hi1 : (i : Int) ≤ 256 := by omega
    go_enter Tryz.func29, Tryz.ntmps29
    go_wp2_with fail
    refine C.out.mono ?_
    rintro e w' ⟨rfl, rfl⟩
    go_wp2_with fail
    refine (CZ.out).mono ?_
    rintro e w1 ⟨rfl, hb⟩
    have B1 := Lib.hid (hb.alloc hb.size (.cells #[.int .i64 za, .int .i64 zb, .int .i64 zc, .int .i64 zd, .bool ze, .int .i64 zf] 61))
    clear hb
    go_wp2
    go_ret
    exact ⟨rfl, HE.out _ B1.out⟩
set_option maxRecDepth 100000 in
set_option maxHeartbeats 16000000 in
theorem rmove_some (B g Bm gm : Nat) (v vz vp : Value) (given : Int) (l : List Lv) (Z : List Ms.Zn) (P : List Ms.Pd) (id zone now : Int) (w : World) (h : RS w B g v given l) (hG : Good (lts l, given)) (hM : Ms.RM w Bm gm vz vp Z P) (hZ : Z.length ≤ 1000000) (i : Nat) (y : Lv) (z : Ms.Zn) (ha : at_ id (lts l) = some i) (hy : l[i]? = some y) (hyx : (lts l)[i]? = some y.x) (hz : Ms.findK Ms.Zn.id zone Z = some z) :
    Calls Tryz.prog 29 #[.pointer (some ⟨g, 0, none⟩), .pointer (some ⟨gm, 0, none⟩), .int .i64 id, .int .i64 zone, .int .i64 now] w fun e w' => e = .returned (.int .i64 ((moveS Z (lts l, given) id zone now).1 : Nat)) ∧ RAc2 w B g v (Bks l) (moveS Z (lts l, given) id zone now).2 w' := by
  have hL : l.length ≤ 256 := by have := good_len hG; simpa [lts] using this
  have C := Lib.hid (rat_any B g v given l id w h (by omega))
  rw [atI_some ha] at C
  have HE := Lib.hid (fun W (hW : Below w.heap.size w W) => ract2_same h hW)
  have CZ := Lib.hid (Ms.rrowZ_any Bm gm vz vp Z P zone w hM hZ)
  rw [hz] at CZ
  have HR := Lib.hid (move_some (s := (lts l, given)) (now := now) ha hyx hz)
  generalize moveS Z (lts l, given) id zone now = r at *
  have hst := h.stays y (List.mem_of_getElem? hy)
  have hmem := List.mem_of_getElem? hyx
  have hlong : y.n ≤ 1000000 := by
    have := hG.long y.x hmem
    rw [hst.len] at this
    omega
  have CI := Lib.hid (fun W (hW : Below w.heap.size w W) => rin_any y W (hst.keep hW) hlong)
  have CL := Lib.hid (fun W (hW : Below w.heap.size w W) => rload_any B g v given l zone W (h.keep hW) hG)
  have CE := Lib.hid (fun (hok : Sy.May y.x.stays now ∧ 1 ≤ zone) W (hW : Below w.heap.size w W) => Sy.r9enter_yes y.p y.n y.c y.x.stays zone now W (hst.keep hW).1 hlong hok.1 hok.2)
  have CN := Lib.hid (fun (hok : ¬ (Sy.May y.x.stays now ∧ 1 ≤ zone)) W (hW : Below w.heap.size w W) => Sy.r9enter_no y.p y.n y.c y.x.stays zone now W (hst.keep hW).1 hlong hok)
  have hld := good_load hG zone
  have hun := good_units hG hmem
  simp only at hld
  obtain ⟨q0, d0, rfl⟩ := rs_slice h
  obtain ⟨n, hn⟩ : ∃ n, l.length = n := ⟨_, rfl⟩
  rw [hn] at hL h
  obtain ⟨b, e, hBb, hbg, hc⟩ := rs_at h hn hy
  subst e
  have hi : (i : Int) < (n : Int) := by have := (List.getElem?_eq_some_iff.1 hy).1; omega
  have hL' : (n : Int) ≤ 256 := by omega
  have hi0 : ¬ (i : Int) < 0 := by omega
  have FIN := Lib.hid (fun W (hW : Below w.heap.size w W) w1 q m c L (hb : Below W.heap.size W w1) (hr : Rw 3 Sy.scells w1 q m L) (hc : m ≤ c) (hk : ∀ k, (0 < m ∧ ∃ a, q = some a ∧ a.block = k) → W.heap.size ≤ k) => rs_stays (c := c) (hW.trans (hb.mono hW.size)) h hn hy hr hc (fun k hh => Nat.le_trans hW.size (hk k hh)))
  have HK := Lib.hid (fun w1 (hb : Below w.heap.size w w1) => h.keep hb)
  have HC := Lib.hid hc
  have HN := Lib.hid hn
  clear h hM hG hy hyx ha hc hn hst hmem hlong
  obtain ⟨⟨i1, i2, i3, i4, i5, i6, i7, S⟩, p, pn, pc⟩ := y
  obtain ⟨za, zb, zc, zd, ze, zf⟩ := z
  unfold lval Ms.zval at *
  simp only [Ms.getK] at CZ CI CE CN hun HR
  generalize loadL (lts l) zone = ld at *
  generalize inL ⟨i1, i2, i3, i4, i5, i6, i7, S⟩ = ii at *
  obtain ⟨hl0, hl1⟩ := hld
  obtain ⟨hu0, hu1⟩ := hun
  go_enter Tryz.func29, Tryz.ntmps29
  go_wp2_with fail
  refine C.out.mono ?_
  rintro e w' ⟨rfl, rfl⟩
  go_wp2_with fail
  refine (CZ.out).mono ?_
  rintro e w1 ⟨rfl, hb⟩
  have B1 := Lib.hid (hb.alloc hb.size (.cells #[.int .i64 za, .int .i64 zb, .int .i64 zc, .int .i64 zd, .bool ze, .int .i64 zf] 61))
  have X1 := Lib.hid (Lies.new w1 61 #[.int .i64 za, .int .i64 zb, .int .i64 zc, .int .i64 zd, .bool ze, .int .i64 zf])
  clear hb
  have R1 := HK.out _ B1.out
  obtain ⟨w2, hw2⟩ : ∃ w2, w1.alloc (.cells #[.int .i64 za, .int .i64 zb, .int .i64 zc, .int .i64 zd, .bool ze, .int .i64 zf] 61) = w2 := ⟨_, rfl⟩
  rw [hw2] at B1 X1 R1
  have m0 : w2.cell? ⟨g, 0, none⟩ = some (.slice (some ⟨b, 0, none⟩) n d0) := R1.blk.cell 0
  have k0 : w2.cell? ⟨b, i * 8, none⟩ = some (.int .i64 i1) := HC.out w2 B1.out 0 (by decide)
  have k1 : w2.cell? ⟨b, i * 8 + 1, none⟩ = some (.int .i64 i2) := HC.out w2 B1.out 1 (by decide)
  have k2 : w2.cell? ⟨b, i * 8 + 2, none⟩ = some (.int .i64 i3) := HC.out w2 B1.out 2 (by decide)
  have k3 : w2.cell? ⟨b, i * 8 + 3, none⟩ = some (.int .i64 i4) := HC.out w2 B1.out 3 (by decide)
  have k4 : w2.cell? ⟨b, i * 8 + 4, none⟩ = some (.int .i64 i5) := HC.out w2 B1.out 4 (by decide)
  have k5 : w2.cell? ⟨b, i * 8 + 5, none⟩ = some (.int .i64 i6) := HC.out w2 B1.out 5 (by decide)
  have k6 : w2.cell? ⟨b, i * 8 + 6, none⟩ = some (.int .i64 i7) := HC.out w2 B1.out 6 (by decide)
  have k7 : w2.cell? ⟨b, i * 8 + 7, none⟩ = some (.slice p pn pc) := HC.out w2 B1.out 7 (by decide)
  clear R1
  have HW2 := Lib.hid hw2
  clear hw2 C CZ m0 k0 k1 k2 k3 k4 k5 k6 k7
  go_upto_region 5 with fail
  rw [HW2.out]
  have R1 := HK.out _ B1.out
  have m0 : w2.cell? ⟨g, 0, none⟩ = some (.slice (some ⟨b, 0, none⟩) n d0) := R1.blk.cell 0
  have k0 : w2.cell? ⟨b, i * 8, none⟩ = some (.int .i64 i1) := HC.out w2 B1.out 0 (by decide)
  have k1 : w2.cell? ⟨b, i * 8 + 1, none⟩ = some (.int .i64 i2) := HC.out w2 B1.out 1 (by decide)
  have k2 : w2.cell? ⟨b, i * 8 + 2, none⟩ = some (.int .i64 i3) := HC.out w2 B1.out 2 (by decide)
  have k3 : w2.cell? ⟨b, i * 8 + 3, none⟩ = some (.int .i64 i4) := HC.out w2 B1.out 3 (by decide)
  have k4 : w2.cell? ⟨b, i * 8 + 4, none⟩ = some (.int .i64 i5) := HC.out w2 B1.out 4 (by decide)
  have k5 : w2.cell? ⟨b, i * 8 + 5, none⟩ = some (.int .i64 i6) := HC.out w2 B1.out 5 (by decide)
  have k6 : w2.cell? ⟨b, i * 8 + 6, none⟩ = some (.int .i64 i7) := HC.out w2 B1.out 6 (by decide)
  have k7 : w2.cell? ⟨b, i * 8 + 7, none⟩ = some (.slice p pn pc) := HC.out w2 B1.out 7 (by decide)
  clear R1
  go_wp2_with fail
  refine (CI.out _ B1.out).mono ?_
  rintro e w3 ⟨rfl, hb⟩
  have B3 := Lib.hid (B1.out.trans (hb.mono B1.out.size))
  have X3 := Lib.hid (X1.out.below hb X1.out.lt)
  clear hb m0 k0 k1 k2 k3 k4 k5 k6 k7 CI B1 X1 HW2
  by_cases h1 : ii = 0
  · have t1 : (ii == 0) = true := by simp [h1]
    have HV := Lib.hid (HR.out.trans (if_pos h1))
    clear h1
    go_wp2
    go_ret
    exact ⟨by rw [HV.out]; rfl, by rw [HV.out]; exact HE.out _ B3.out⟩
  have t1 : (ii == 0) = false := by simp [h1]
  have HR := Lib.hid (HR.out.trans (if_neg h1))
  clear h1
  by_cases h2 : ii = zone
  · have t2 : (ii == zone) = true := by simp [h2]
    have HV := Lib.hid (HR.out.trans (if_pos h2))
    clear h2
    go_wp2
    go_ret
    exact ⟨by rw [HV.out]; rfl, by rw [HV.out]; exact HE.out _ B3.out⟩
  have t2 : (ii == zone) = false := by simp [h2]
  have HR := Lib.hid (HR.out.trans (if_neg h2))
  clear h2
  go_wp2_with fail
  refine (CL.out _ B3.out).mono ?_
  rintro e w4 ⟨rfl, hb⟩
  have B4 := Lib.hid (B3.out.trans (hb.mono B3.out.size))
  have X4 := Lib.hid (X3.out.below hb X3.out.lt)
  clear hb CL B3 X3 t1 t2
  have R4 := HK.out _ B4.out
  have m0 : w4.cell? ⟨g, 0, none⟩ = some (.slice (some ⟨b, 0, none⟩) n d0) := R4.blk.cell 0
  have z3 : w4.cell? ⟨w1.heap.size, 3, none⟩ = some (.int .i64 zd) := X4.out.cell 3
  have k2 : w4.cell? ⟨b, i * 8 + 2, none⟩ = some (.int .i64 i3) := HC.out w4 B4.out 2 (by decide)
  have k7 : w4.cell? ⟨b, i * 8 + 7, none⟩ = some (.slice p pn pc) := HC.out w4 B4.out 7 (by decide)
  have q1 : IntKind.i64.wrap (ld + i3) = ld + i3 := IntWalk.i64_in _ (by omega)
  by_cases h3 : zd < ld + i3
  · have HV := Lib.hid (HR.out.trans (if_pos h3))
    go_wp2_with fail
    go_quiet (fail)
    clear q1
    go_wp2
    go_ret
    exact ⟨by rw [HV.out]; rfl, by rw [HV.out]; exact HE.out _ (below_drewN B4.out _)⟩
  have HR := Lib.hid (HR.out.trans (if_neg h3))
  have h3' : decide (zd < ld + i3) = false := by simpa using h3
  clear h3 R4
  go_wp2_with fail
  go_quiet (fail)
  clear q1
  have B5 := Lib.hid (below_drewN B4.out nq)
  obtain ⟨w5, hw5⟩ : ∃ w5, w4.drewN nq = w5 := ⟨_, rfl⟩
  rw [hw5] at B5 ⊢
  clear hw5 m0 z3 k2 k7 B4 X4 h3'
  have R5 := HK.out _ B5.out
  have m0 : w5.cell? ⟨g, 0, none⟩ = some (.slice (some ⟨b, 0, none⟩) n d0) := R5.blk.cell 0
  have k7 : w5.cell? ⟨b, i * 8 + 7, none⟩ = some (.slice p pn pc) := HC.out w5 B5.out 7 (by decide)
  clear R5
  by_cases hok : Sy.May S now ∧ 1 ≤ zone
  · have HV := Lib.hid (HR.out.trans (if_pos hok))
    have CE2 := Lib.hid (CE.out hok _ B5.out)
    clear CE CN hok HE
    go_wp2_with fail
    refine (CE2.out.mono (fun e w1 hh => ok_new hh)).mono ?_
    intro e w6 he
    obtain ⟨q, m, c, rfl, hcm, hr, hk, hb⟩ := he
    have RK := HK.out w6 (B5.out.trans (hb.mono B5.out.size))
    have n0 : w6.cell? ⟨g, 0, none⟩ = some (.slice (some ⟨b, 0, none⟩) n d0) := RK.blk.cell 0
    have r7 : w6.cell? ⟨b, i * 8 + 7, none⟩ = some (.slice p pn pc) := HC.out w6 (B5.out.trans (hb.mono B5.out.size)) 7 (by decide)
    have hrow := RK.row
    rw [HN.out] at hrow
    have f7 : w6.frozen? ⟨b, i * 8 + 7, none⟩ = false := hrow.frozenAt _
    have FF := Lib.hid (FIN.out w5 B5.out w6 q m c _ hb hr hcm hk)
    clear hb hr hcm hk RK hrow FIN HK HC CE2 m0 k7 B5
    go_wp2
    go_ret
    exact ⟨by rw [HV.out]; rfl, by rw [HV.out]; exact FF.out⟩
  · have HV := Lib.hid (HR.out.trans (if_neg hok))
    have CN2 := Lib.hid (CN.out hok _ B5.out)
    clear CE CN hok FIN HK HC
    go_wp2_with fail
    refine CN2.out.mono ?_
    rintro e w6 ⟨rfl, hb⟩
    have HF := Lib.hid (HE.out w6 (B5.out.trans (hb.mono B5.out.size)))
    clear hb HE CN2 m0 k7 B5
    go_wp2
    go_ret
    exact ⟨by rw [HV.out]; rfl, by rw [HV.out]; exact HF.out⟩
/-- Move, whole. -/
theorem rmove_any (B g Bm gm : Nat) (v vz vp : Value) (given : Int) (l : List Lv) (Z : List Ms.Zn) (P : List Ms.Pd) (id zone now : Int) (w : World) (h : RS w B g v given l) (hG : Good (lts l, given)) (hM : Ms.RM w Bm gm vz vp Z P) (hZ : Z.length ≤ 1000000) :
    Calls Tryz.prog 29 #[.pointer (some ⟨g, 0, none⟩), .pointer (some ⟨gm, 0, none⟩), .int .i64 id, .int .i64 zone, .int .i64 now] w fun e w' => e = .returned (.int .i64 ((moveS Z (lts l, given) id zone now).1 : Nat)) ∧ RAc2 w B g v (Bks l) (moveS Z (lts l, given) id zone now).2 w' := by
  cases ha : at_ id (lts l) with
  | none =>
    rw [move_none (.inl ha)]
    exact rmove_none B g Bm gm v vz vp given l Z P id zone now w h hG hM hZ (.inl ha)
  | some i =>
    cases hz : Ms.findK Ms.Zn.id zone Z with
    | none =>
      rw [move_none (.inr hz)]
      exact rmove_none B g Bm gm v vz vp given l Z P id zone now w h hG hM hZ (.inr hz)
    | some z =>
      obtain ⟨y, hy, hyx⟩ := at_of ha
      exact rmove_some B g Bm gm v vz vp given l Z P id zone now w h hG hM hZ i y z ha hy hyx hz
end Lo
end Go.Proofs.YtkfmkchonlajpaaGreat

namespace Go.Proofs.YtkfmkchonlajpaaGreat
open Go.RowKit Go.Maps

namespace Lo
theorem infoL9 : (Tryz.prog.info? 50).map (fun i => (i.zero, i.size, i.bytes)) = some (some (.agg #[.int .i64 0, .int .i64 0, .int .i64 0, .int .i64 0, .int .i64 0, .int .i64 0, .int .i64 0, .slice none 0 0]), 8, 80) := by kernel_rfl
theorem own_empty (w : World) (B : Nat) (hB : B ≤ w.heap.size) (t : TypeId) (k : Nat) : (w.alloc (.cells #[] t)).ownsRow B t k (.slice (some ⟨w.heap.size, 0, none⟩) 0 0) 0 [] :=
  ⟨by simp, .inr ⟨w.heap.size, 0, #[], rfl, hB, Lies.new w t #[], Nat.le_refl _, Nat.zero_le _, by simp, by simp⟩⟩
/-- One more lot, behind the others; its stays lie at a place of their own. -/
theorem rs_app2 {w wr w2 : World} {B g gg cap : Nat} {v : Value} {given : Int} {l : List Lv} {y : Lv} (hb : Turn (RFoot g v) w wr) (h : RS wr B g v given l)
    (hown : w2.ownsRow B 50 8 (.slice (some ⟨gg, 0, none⟩) (l.length + 1) cap) (l.length + 1) (l.flatMap lcells ++ lcells y))
    (T1 : Turn (fun k => v.ownBlock = some k) wr w2) (hat : v.ownBlock = some gg ∨ wr.heap.size ≤ gg)
    (fb : Lies w2 g 37 #[v, .int .i64 given]) (hy : St w2 y) (hyk : ∀ k, Bk y k → k ≠ g ∧ gg ≠ k) {K : Nat → Prop} (hK : ∀ k, Bks l k → K k) (hyK : ∀ k, Bk y k → K k ∨ w.heap.size ≤ k) :
    RDone w B g v K given (l ++ [y]) (w2.setCell ⟨g, 0, none⟩ (.slice (some ⟨gg, 0, none⟩) (l.length + 1) cap)) := by
  have hne : gg ≠ g := fun e => own_blk_ne hown fb (by decide) (by rw [e]; rfl)
  have T2 : Turn (fun k => k = g) w2 (w2.setCell ⟨g, 0, none⟩ (.slice (some ⟨gg, 0, none⟩) (l.length + 1) cap)) := (Turn.refl (fun k => k = g) w2).setCell (p := ⟨g, 0, none⟩) (.inl rfl) _
  have hs := hb.size
  have hapn : ∀ z ∈ l, ∀ k, Bk z k → gg ≠ k := fun z hz k hk e => by
    rcases hat with hat | hat
    · exact (h.apart z hz k hk).2 (by rw [hat, e])
    · have := (h.stays z hz).lt hk
      omega
  refine ⟨.slice (some ⟨gg, 0, none⟩) (l.length + 1) cap, ⟨h.base, ?_, ?_, fun z hz => ?_, fun z hz k hk => ?_⟩, ?_, fun k hk => ?_, fun k hk => ?_⟩
  · simpa using fb.set_ 0 (.slice (some ⟨gg, 0, none⟩) (l.length + 1) cap)
  · rw [List.length_append, ← flat_snoc]
    exact own_turn hown T2 (fun k hk e => by
      subst e
      exact hne (by simpa [Value.ownBlock] using hk))
  · rcases List.mem_append.1 hz with hz | hz
    · exact ((h.stays z hz).turn T1 (fun k hk e => (h.apart z hz k hk).2 e)).turn T2 (fun k hk e => (h.apart z hz k hk).1 e)
    · rw [List.mem_singleton.1 hz]
      exact hy.turn T2 (fun k hk e => (hyk k hk).1 e)
  · rcases List.mem_append.1 hz with hz | hz
    · refine ⟨(h.apart z hz k hk).1, fun e => hapn z hz k hk ?_⟩
      simpa [Value.ownBlock] using e
    · rw [List.mem_singleton.1 hz] at hk
      refine ⟨(hyk k hk).1, fun e => (hyk k hk).2 ?_⟩
      simpa [Value.ownBlock] using e
  · refine (hb.trans (T1.mono (fun i _ hi => .inr hi)) (fun i hi => .inl hi)).trans (S' := fun k => k = g) T2 (fun i hi => .inl (.inl hi))
  · have e : gg = k := by simpa [Value.ownBlock] using hk
    subst e
    rcases hat with hat | hat
    · exact .inl hat
    · exact .inr (by omega)
  · rcases bks_app hk with hk | hk
    · exact .inl (hK k hk)
    · exact hyK k hk
theorem rw_news {α : Type} {k : Nat} {enc : α → List Value} (hk : ∀ x, (enc x).length = k) (h0 : 0 < k) {W : World} {b o n : Nat} {l : List α} (h : Rw k enc W (some ⟨b, o, none⟩) n l) : ∀ j u, (l.flatMap enc)[j]? = some u → W.cell? (Addr.add ⟨b, o, none⟩ j) = some u := by
  intro j u hj
  have hlt := (List.getElem?_eq_some_iff.1 hj).1
  rw [flat_len hk] at hlt
  have hl : 0 < l.length := by
    rcases Nat.eq_zero_or_pos l.length with e | e
    · rw [e] at hlt
      simp at hlt
    · exact e
  obtain ⟨b2, o2, e, hc⟩ := h.2 (by rw [← h.1]; exact hl)
  injection e with e
  injection e with e1 e2
  subst e1 e2
  have hd : j / k < l.length := Nat.div_lt_of_lt_mul (by rw [Nat.mul_comm]; exact hlt)
  have hm : j % k < k := Nat.mod_lt _ h0
  have hx : l[j / k]? = some l[j / k] := List.getElem?_eq_getElem hd
  have e1 := hc (j / k) _ hx (j % k) hm
  have e2 := flat_at hk l (j / k) (j % k) _ hx hm
  have e3 : j / k * k + j % k = j := by rw [Nat.mul_comm]; exact Nat.div_add_mod j k
  rw [e3, hj] at e2
  rw [Nat.add_assoc, e3, ← e2] at e1
  rw [add_none]
  exact e1
theorem scells_one (S : List Sy.Sy) : ∀ u ∈ S.flatMap Sy.scells, u.oneCell' = true := by
  intro u hu
  obtain ⟨x, _, hx⟩ := List.mem_flatMap.1 hu
  simp [Sy.scells] at hx
  rcases hx with rfl | rfl | rfl <;> rfl
theorem split_none {s : Stk} {id units : Int} (h : at_ id s.1 = none) : splitS s id units = ((0, 5), s) := by unfold splitS; rw [h]
theorem split_some {s : Stk} {id units : Int} {i : Nat} {x : Lt} (h : at_ id s.1 = some i) (hx : s.1[i]? = some x) :
    splitS s id units = if units < 1 ∨ x.units ≤ units then ((0, 1), s) else if inL x = 0 then ((0, 8), s) else if 256 ≤ s.2 then ((0, 4), s)
      else ((s.2 + 1, 0), (s.1.set i { x with units := x.units - units } ++ [{ x with id := s.2 + 1, units := units }], s.2 + 1)) := by
  unfold splitS
  rw [h]
  simp only [hx]
theorem in_some {x : Lt} (h : inL x ≠ 0) : 0 < x.stays.length := by
  unfold inL at h
  cases hs : x.stays with
  | nil => rw [hs] at h; exact absurd rfl h
  | cons a l => simp
theorem split_end {w w8 w2 : World} {B g b n d i gg cap m c2 : Nat} {given units : Int} {l : List Lv} {y : Lv} {q : Option Addr} {ob : Obj} (hb : Turn (RFoot g (.slice (some ⟨b, 0, none⟩) n d)) w w8) (h : RS w8 B g (.slice (some ⟨b, 0, none⟩) n d) (given + 1) (l.set i { y with x := { y.x with units := y.x.units - units } })) (hn : l.length = n)
    (hown : w2.ownsRow B 50 8 (.slice (some ⟨gg, 0, none⟩) (n + 1) cap) (n + 1) ((l.set i { y with x := { y.x with units := y.x.units - units } }).flatMap lcells ++ lcells ⟨{ y.x with id := given + 1, units := units }, q, m, c2⟩))
    (hg : (w8.alloc ob).drew.grownBy w2 (some b)) (hat : gg = b ∨ gg = w8.heap.size + 1)
    (fb : Lies w2 g 37 #[.slice (some ⟨b, 0, none⟩) n d, .int .i64 (given + 1)]) (hr : Rw 3 Sy.scells w8 q m y.x.stays) (hc : m ≤ c2) (hk : ∀ k, (0 < m ∧ ∃ a, q = some a ∧ a.block = k) → k ≠ g ∧ k ≠ b ∧ k < w8.heap.size ∧ w.heap.size ≤ k) (hyl : l[i]? = some y) :
    RAc2 w B g (.slice (some ⟨b, 0, none⟩) n d) (Bks l) ((lts l).set i { y.x with units := y.x.units - units } ++ [{ y.x with id := given + 1, units := units }], given + 1) (w2.setCell ⟨g, 0, none⟩ (.slice (some ⟨gg, 0, none⟩) (n + 1) cap)) := by
  have hlen : (l.set i { y with x := { y.x with units := y.x.units - units } }).length = n := by rw [List.length_set, hn]
  have T1 : Turn (fun k => (Value.slice (some ⟨b, 0, none⟩) n d).ownBlock = some k) w8 w2 := (((Turn.refl _ w8).alloc ob).drew).grown hg (fun k hk => .inl hk)
  have hy : St w2 ⟨{ y.x with id := given + 1, units := units }, q, m, c2⟩ := St.turn (y := ⟨{ y.x with id := given + 1, units := units }, q, m, c2⟩) (w := w8) ⟨hr, hc⟩ T1 (fun k hk' e => by
    have e2 : b = k := by simpa [Value.ownBlock] using e
    exact (hk k hk').2.1 e2.symm)
  have R := rs_app2 (y := ⟨{ y.x with id := given + 1, units := units }, q, m, c2⟩) (gg := gg) (cap := cap) hb h (by rw [hlen]; exact hown) T1 (by
    rcases hat with rfl | rfl
    · exact .inl rfl
    · exact .inr (by omega)) fb hy (fun k hk' => ⟨(hk k hk').1, fun e => by
      have h1 := hk k hk'
      rcases hat with hat | hat
      · exact h1.2.1 (by omega)
      · omega⟩) (K := Bks l) (fun k hk0 => bks_same (y' := { y with x := { y.x with units := y.x.units - units } }) hyl (fun _ hh => hh) hk0) (fun k hk' => .inr (hk k hk').2.2.2)
  rw [hlen] at R
  exact ⟨_, by rw [lts, List.map_append]; exact congrArg (· ++ _) lts_set, R⟩
set_option maxRecDepth 100000 in
set_option maxHeartbeats 16000000 in
theorem rsplit_any (B g : Nat) (v : Value) (given : Int) (l : List Lv) (id units : Int) (w : World) (h : RS w B g v given l) (hG : Good (lts l, given)) :
    Calls Tryz.prog 30 #[.pointer (some ⟨g, 0, none⟩), .int .i64 id, .int .i64 units] w fun e w' => e = .returned (.tuple #[.int .i64 (splitS (lts l, given) id units).1.1, .int .i64 ((splitS (lts l, given) id units).1.2 : Nat)]) ∧ RAc2 w B g v (Bks l) (splitS (lts l, given) id units).2 w' := by
  obtain ⟨i0, hi0', hz0, hz1, hz2⟩ := info_parts infoL9
  obtain ⟨s0, hs0', sz0, sz1, sz2⟩ := info_parts Sy.infoS9
  have hL : l.length ≤ 256 := by have := good_len hG; simpa [lts] using this
  have C := Lib.hid (rat_any B g v given l id w h (by omega))
  have HE := Lib.hid (fun W (hW : Below w.heap.size w W) => ract2_same h hW)
  cases ha : at_ id (lts l) with
  | none =>
    rw [atI_none ha] at C
    rw [split_none ha]
    clear ha h hG
    go_enter Tryz.func30, Tryz.ntmps30
    go_wp2_with fail
    refine C.out.mono ?_
    rintro e w' ⟨rfl, rfl⟩
    go_wp2
    go_ret2
    exact ⟨rfl, HE.out _ (Below.refl _ _)⟩
  | some i =>
    obtain ⟨y, hy, hyx⟩ := at_of ha
    have HR := Lib.hid (split_some (s := (lts l, given)) (units := units) ha hyx)
    generalize splitS (lts l, given) id units = r at *
    rw [atI_some ha] at C
    obtain ⟨q0, d0, rfl⟩ := rs_slice h
    obtain ⟨n, hn⟩ : ∃ n, l.length = n := ⟨_, rfl⟩
    rw [hn] at hL h
    obtain ⟨b, e, hBb, hbg, hc⟩ := rs_at h hn hy
    subst e
    have hi : (i : Int) < (n : Int) := by have := (List.getElem?_eq_some_iff.1 hy).1; omega
    have hL' : (n : Int) ≤ 256 := by omega
    have hi0 : ¬ (i : Int) < 0 := by omega
    have hst := h.stays y (List.mem_of_getElem? hy)
    have hmem := List.mem_of_getElem? hyx
    have hlong : y.n ≤ 100000 := by
      have := hG.long y.x hmem
      rw [hst.len] at this
      omega
    have hun := good_units hG hmem
    have hgv := hG.given
    have CI := Lib.hid (fun W (hW : Below w.heap.size w W) => rin_any y W (hst.keep hW) (by omega))
    have HK := Lib.hid (fun w1 (hb : Below w.heap.size w w1) => h.keep hb)
    have HC := Lib.hid hc
    have HN := Lib.hid hn
    have HY := Lib.hid hy
    have HST := Lib.hid hst
    have HAP := Lib.hid (h.apart y (List.mem_of_getElem? hy))
    have m0 : w.cell? ⟨g, 0, none⟩ = some (.slice (some ⟨b, 0, none⟩) n d0) := h.blk.cell 0
    clear h hG hy hyx ha hn hst hmem hc
    obtain ⟨⟨i1, i2, i3, i4, i5, i6, i7, S⟩, p, pn, pc⟩ := y
    unfold lval at *
    simp only at CI hun HR hlong hgv
    obtain ⟨hu0, hu1⟩ := hun
    obtain ⟨hg0, hg1⟩ := hgv
    have k0 : w.cell? ⟨b, i * 8, none⟩ = some (.int .i64 i1) := HC.out w (Below.refl _ _) 0 (by decide)
    have k1 : w.cell? ⟨b, i * 8 + 1, none⟩ = some (.int .i64 i2) := HC.out w (Below.refl _ _) 1 (by decide)
    have k2 : w.cell? ⟨b, i * 8 + 2, none⟩ = some (.int .i64 i3) := HC.out w (Below.refl _ _) 2 (by decide)
    have k3 : w.cell? ⟨b, i * 8 + 3, none⟩ = some (.int .i64 i4) := HC.out w (Below.refl _ _) 3 (by decide)
    have k4 : w.cell? ⟨b, i * 8 + 4, none⟩ = some (.int .i64 i5) := HC.out w (Below.refl _ _) 4 (by decide)
    have k5 : w.cell? ⟨b, i * 8 + 5, none⟩ = some (.int .i64 i6) := HC.out w (Below.refl _ _) 5 (by decide)
    have k6 : w.cell? ⟨b, i * 8 + 6, none⟩ = some (.int .i64 i7) := HC.out w (Below.refl _ _) 6 (by decide)
    have k7 : w.cell? ⟨b, i * 8 + 7, none⟩ = some (.slice p pn pc) := HC.out w (Below.refl _ _) 7 (by decide)
    by_cases h1 : units < 1 ∨ i3 ≤ units
    · have HV := Lib.hid (HR.out.trans (if_pos h1))
      have c : units < 1 ∨ (¬ units < 1 ∧ i3 ≤ units) := by omega
      clear h1 HR CI
      rcases c with c1 | ⟨c1, c2⟩
      all_goals
        go_enter Tryz.func30, Tryz.ntmps30
        go_wp2_with fail
        refine C.out.mono ?_
        rintro e w' ⟨rfl, rfl⟩
        go_wp2
        go_ret2
        exact ⟨by rw [HV.out]; rfl, by rw [HV.out]; exact HE.out _ (Below.refl _ _)⟩
    have HR := Lib.hid (HR.out.trans (if_neg h1))
    have c1 : ¬ units < 1 := fun e => h1 (.inl e)
    have c2 : ¬ i3 ≤ units := fun e => h1 (.inr e)
    clear h1
    have HI := Lib.hid (fun hne : inL ⟨i1, i2, i3, i4, i5, i6, i7, S⟩ ≠ 0 => in_some hne)
    generalize inL ⟨i1, i2, i3, i4, i5, i6, i7, S⟩ = ii at *
    go_enter Tryz.func30, Tryz.ntmps30
    go_wp2_with fail
    refine C.out.mono ?_
    rintro e w' ⟨rfl, rfl⟩
    go_wp2_with fail
    refine (CI.out _ (Below.refl _ _)).mono ?_
    rintro e w1 ⟨rfl, hb⟩
    have B1 := Lib.hid hb
    clear hb CI C m0 k0 k1 k2 k3 k4 k5 k6 k7
    by_cases h2 : ii = 0
    · have HV := Lib.hid (HR.out.trans (if_pos h2))
      have t2 : (ii == 0) = true := by simp [h2]
      clear h2
      go_wp2
      go_ret2
      exact ⟨by rw [HV.out]; rfl, by rw [HV.out]; exact HE.out _ B1.out⟩
    have HR := Lib.hid (HR.out.trans (if_neg h2))
    have hS := HI.out h2
    have t2 : (ii == 0) = false := by simp [h2]
    clear h2 HI
    have R1 := HK.out _ B1.out
    have m1 : w1.cell? ⟨g, 1, none⟩ = some (.int .i64 given) := R1.blk.cell 1
    by_cases h3 : 256 ≤ given
    · have HV := Lib.hid (HR.out.trans (if_pos h3))
      clear R1
      go_wp2
      go_ret2
      exact ⟨by rw [HV.out]; rfl, by rw [HV.out]; exact HE.out _ B1.out⟩
    have HV := Lib.hid (HR.out.trans (if_neg h3))
    have h3' : ¬ (256 : Int) ≤ given := h3
    have f1 : w1.frozen? ⟨g, 1, none⟩ = false := R1.blk.frozen 1
    have T2 := Lib.hid ((Turn.of_below (S := RFoot g (.slice (some ⟨b, 0, none⟩) n d0)) B1.out).setCell (p := ⟨g, 1, none⟩) (.inl (.inl rfl)) (.int .i64 (given + 1)))
    have R2 := Lib.hid (R1.gave (given + 1))
    clear h3 HR R1 HE
    go_upto_region 11 with fail
    clear m1 f1 t2 h3'
    obtain ⟨w2, hw2⟩ : ∃ w2, w1.setCell ⟨g, 1, none⟩ (.int .i64 (given + 1)) = w2 := ⟨_, rfl⟩
    rw [hw2] at T2 R2 ⊢
    clear hw2
    obtain ⟨bb, e, _, _, hc⟩ := rs_at R2.out HN.out HY.out
    injection e with e
    injection e with e
    subst e
    have HC2 := Lib.hid hc
    have m0 : w2.cell? ⟨g, 0, none⟩ = some (.slice (some ⟨b, 0, none⟩) n d0) := R2.out.blk.cell 0
    have k0 : w2.cell? ⟨b, i * 8, none⟩ = some (.int .i64 i1) := hc w2 (Below.refl _ _) 0 (by decide)
    have k1 : w2.cell? ⟨b, i * 8 + 1, none⟩ = some (.int .i64 i2) := hc w2 (Below.refl _ _) 1 (by decide)
    have k2 : w2.cell? ⟨b, i * 8 + 2, none⟩ = some (.int .i64 i3) := hc w2 (Below.refl _ _) 2 (by decide)
    have k3 : w2.cell? ⟨b, i * 8 + 3, none⟩ = some (.int .i64 i4) := hc w2 (Below.refl _ _) 3 (by decide)
    have k4 : w2.cell? ⟨b, i * 8 + 4, none⟩ = some (.int .i64 i5) := hc w2 (Below.refl _ _) 4 (by decide)
    have k5 : w2.cell? ⟨b, i * 8 + 5, none⟩ = some (.int .i64 i6) := hc w2 (Below.refl _ _) 5 (by decide)
    have k6 : w2.cell? ⟨b, i * 8 + 6, none⟩ = some (.int .i64 i7) := hc w2 (Below.refl _ _) 6 (by decide)
    have k7 : w2.cell? ⟨b, i * 8 + 7, none⟩ = some (.slice p pn pc) := hc w2 (Below.refl _ _) 7 (by decide)
    have m1 : w2.cell? ⟨g, 1, none⟩ = some (.int .i64 (given + 1)) := R2.out.blk.cell 1
    have FC : ∀ ob j, (w2.alloc ob).cell? ⟨g, j, none⟩ = w2.cell? ⟨g, j, none⟩ := fun ob j => (alloc_below w2 ob).cell (p := ⟨g, j, none⟩) R2.out.blk.lt
    go_upto_region 14 with fail
    clear k0 k1 k2 k3 k4 k5 k6 k7 m0 m1 FC HC hc
    have A3 := Lib.hid (alloc_below w2 (.cells #[.int .i64 (given + 1), .int .i64 i2, .int .i64 units, .int .i64 i4, .int .i64 i5, .int .i64 i6, .int .i64 i7, .slice p pn pc] 50))
    have X3 := Lib.hid (Lies.new w2 50 #[.int .i64 (given + 1), .int .i64 i2, .int .i64 units, .int .i64 i4, .int .i64 i5, .int .i64 i6, .int .i64 i7, .slice p pn pc])
    obtain ⟨w3, hw3⟩ : ∃ w3, w2.alloc (.cells #[.int .i64 (given + 1), .int .i64 i2, .int .i64 units, .int .i64 i4, .int .i64 i5, .int .i64 i6, .int .i64 i7, .slice p pn pc] 50) = w3 := ⟨_, rfl⟩
    rw [hw3] at A3 X3 ⊢
    clear hw3
    have T3 := Lib.hid (T2.out.trans (S' := fun _ => False) (Turn.of_below A3.out) (fun _ hh => hh.elim))
    have R3 := Lib.hid (R2.out.keep A3.out)
    have C3 := Lib.hid (fun j (hj : j < 8) => HC2.out w3 A3.out j hj)
    have hy3 := (R3.out.stays _ (List.mem_of_getElem? HY.out))
    have ap3 := (R3.out.apart _ (List.mem_of_getElem? HY.out))
    have hpn := hy3.len
    simp only at hpn
    obtain ⟨bs, os, hp, hcs⟩ := hy3.1.2 (show 0 < pn by rw [← hpn]; exact hS)
    simp only at hp
    subst hp
    have HR3 := Lib.hid (show Rw 3 Sy.scells w3 (some ⟨bs, os, none⟩) pn S from hy3.1)
    have x7 : w3.cell? ⟨w2.heap.size, 7, none⟩ = some (.slice (some ⟨bs, os, none⟩) pn pc) := X3.out.cell 7
    have FC : ∀ ob j, (w3.alloc ob).cell? ⟨w2.heap.size, j, none⟩ = w3.cell? ⟨w2.heap.size, j, none⟩ := fun ob j => (alloc_below w3 ob).cell (p := ⟨w2.heap.size, j, none⟩) X3.out.lt
    have hsz := R3.out.base
    have hgl := R3.out.blk.lt
    have hbl : b < w3.heap.size := (R3.out.foot (k := b) (.inr rfl)).2
    clear hcs hy3
    have OE := Lib.hid (own_empty w3 w3.heap.size (Nat.le_refl _) 71 3)
    have hml := X3.out.lt
    have hb2 : b < w2.heap.size := (R2.out.foot (k := b) (.inr rfl)).2
    go_upto_region 15 with (at_builtin; refine wpList_append_own_at _ rfl _ _ 48 rfl w3.heap.size 71 s0 _ 3 24 Tryz.underlying48 hs0' sz0 sz1 sz2 rfl (by decide) _ _ _ rfl OE.out ⟨bs, os, none⟩ pn pc (S.flatMap Sy.scells) rfl (by rw [flat_len Sy.scells_len, hpn]) (rw_news Sy.scells_len (by decide) (HR3.out.keep Sy.scells_len (alloc_below w3 _))) (scells_one S) (by unfold maxLen; omega) (by omega) (by simp) ?_; rw [Nat.zero_add]; intro v5 w5 hown5 hg5 _ hat5; obtain ⟨q5, d5, rfl⟩ := own_slice hown5; have X5 := Lib.hid ((X3.out.alloc (.cells #[] 71)).grown hg5 (fun e => by have := (own_lt OE.out e.symm).1; omega)); have f5 : w5.frozen? ⟨w2.heap.size, 7, none⟩ = false := X5.out.frozen 7; have y7 : w5.cell? ⟨w2.heap.size, 7, none⟩ = some (.slice (some ⟨bs, os, none⟩) pn pc) := X5.out.cell 7; have B5 := Lib.hid (((Below.refl w3.heap.size w3).alloc (Nat.le_refl _) (.cells #[] 71)).grown hg5 (by simp) (fun k hk => (own_lt OE.out hk).1)))
    rw [List.nil_append] at hown5
    have B6 := Lib.hid ((A3.out.trans (B5.out.mono A3.out.size)).setCell (p := ⟨w2.heap.size, 7, none⟩) (show w2.heap.size ≤ _ from Nat.le_refl _) (.slice q5 pn d5))
    have X6 : Hid (Lies (w5.setCell ⟨w2.heap.size, 7, none⟩ (.slice q5 pn d5)) w2.heap.size 50 #[.int .i64 (given + 1), .int .i64 i2, .int .i64 units, .int .i64 i4, .int .i64 i5, .int .i64 i6, .int .i64 i7, .slice q5 pn d5]) := Lib.hid (by simpa using X5.out.set_ 7 (.slice q5 pn d5))
    have O6 := Lib.hid (own_turn hown5 ((Turn.refl (fun k => k = w2.heap.size) w5).setCell (p := ⟨w2.heap.size, 7, none⟩) (.inl rfl) (.slice q5 pn d5)) (fun k hk e => by have := (own_lt hown5 hk).1; omega))
    obtain ⟨w6, hw6⟩ : ∃ w6, w5.setCell ⟨w2.heap.size, 7, none⟩ (.slice q5 pn d5) = w6 := ⟨_, rfl⟩
    rw [hw6] at B6 X6 O6 ⊢
    clear hw6 hown5 hg5 hat5 f5 y7 X5 B5 x7 FC OE HR3 C3 R3 T3 X3
    have R6 := Lib.hid (R2.out.keep B6.out)
    have T6 := Lib.hid (T2.out.trans (S' := fun _ => False) (Turn.of_below B6.out) (fun _ hh => hh.elim))
    have W6 : Hid (Rw 3 Sy.scells w6 q5 pn S ∧ pn ≤ d5 ∧ ∀ k, (0 < pn ∧ ∃ a, q5 = some a ∧ a.block = k) → k ≠ g ∧ k ≠ b ∧ k < w6.heap.size ∧ w.heap.size ≤ k) := Lib.hid (by
      have o6 := O6.out
      have o7 : w6.ownsRow w3.heap.size 71 3 (.slice q5 pn d5) S.length (S.flatMap Sy.scells) := by rw [hpn]; exact o6
      obtain ⟨q6, c6, e6, hc6, hr6⟩ := rw_own Sy.scells_len o7
      injection e6 with e1 e2 e3
      subst e1 e3
      refine ⟨by rw [← hpn]; exact hr6, by rw [← hpn]; exact hc6, fun k hk => ?_⟩
      obtain ⟨_, a, ha, rfl⟩ := hk
      subst ha
      have := own_lt o6 (k := a.block) rfl
      have h9 := T2.out.size
      have h10 := A3.out.size
      exact ⟨by omega, by omega, this.2, by omega⟩)
    clear O6
    have m0 : w6.cell? ⟨g, 0, none⟩ = some (.slice (some ⟨b, 0, none⟩) n d0) := R6.out.blk.cell 0
    have k2 : w6.cell? ⟨b, i * 8 + 2, none⟩ = some (.int .i64 i3) := HC2.out w6 B6.out 2 (by decide)
    have q1 : IntKind.i64.wrap (i3 - units) = i3 - units := IntWalk.i64_in _ (by omega)
    go_still_tail 17, (by kernel_rfl)
    clear q1 m0 k2
    have B7 := Lib.hid (below_drewN B6.out 1)
    obtain ⟨w7, hw7⟩ : ∃ w7, w6.drew = w7 := ⟨_, rfl⟩
    have B7' : Hid (Below w6.heap.size w6 w7) := Lib.hid (by rw [← hw7]; exact (Below.refl _ w6).drew)
    rw [show ({ heap := w6.heap, tape := w6.tape, drawn := w6.drawn + 1, os := w6.os, output := w6.output } : World) = w7 from hw7]
    have W7 := Lib.hid (show Rw 3 Sy.scells w7 q5 pn S from W6.out.1.keep Sy.scells_len B7'.out)
    have X7 := Lib.hid (X6.out.below B7'.out X6.out.lt)
    have R7 := Lib.hid (R6.out.keep B7'.out)
    have T7 := Lib.hid (T6.out.trans (S' := fun _ => False) (Turn.of_below B7'.out) (fun _ hh => hh.elim))
    have hz7 : w7.heap.size = w6.heap.size := by rw [← hw7]; rfl
    have HZ7 := Lib.hid hz7
    clear hw7 hz7 R6 T6 X6 B7 B7'
    have k2 : w7.cell? ⟨b, i * 8 + 2, none⟩ = some (.int .i64 i3) := by
      have hr := R7.out.row
      rw [HN.out] at hr
      exact row_cell lcells_len hr HN.out HY.out (i := 2) (by decide)
    have f2 : w7.frozen? ⟨b, i * 8 + 2, none⟩ = false := by
      have hr := R7.out.row
      rw [HN.out] at hr
      exact hr.frozenAt _
    have st7 := R7.out.stays _ (List.mem_of_getElem? HY.out)
    have R8 := Lib.hid (rs_cell R7.out HN.out HY.out (y' := ⟨⟨i1, i2, i3 - units, i4, i5, i6, i7, S⟩, some ⟨bs, os, none⟩, pn, pc⟩) (j := 2) (by decide) (u := .int .i64 (i3 - units)) rfl st7 (fun k hk => ⟨(ap3 k hk).1, fun e => (ap3 k hk).2 (by rw [e]; rfl)⟩))
    have T8 := Lib.hid (T7.out.setCell (p := ⟨b, i * 8 + 2, none⟩) (.inl (.inr rfl)) (.int .i64 (i3 - units)))
    have T78 : Hid (Turn (fun k => k = b) w7 (w7.setCell ⟨b, i * 8 + 2, none⟩ (.int .i64 (i3 - units)))) := Lib.hid ((Turn.refl (fun k => k = b) w7).setCell (p := ⟨b, i * 8 + 2, none⟩) (.inl rfl) _)
    go_upto_region 16 with fail
    clear k2 f2 st7
    obtain ⟨w8, hw8⟩ : ∃ w8, w7.setCell ⟨b, i * 8 + 2, none⟩ (.int .i64 (i3 - units)) = w8 := ⟨_, rfl⟩
    rw [hw8] at R8 T8 T78 ⊢
    clear hw8
    have W8 := Lib.hid (show Rw 3 Sy.scells w8 q5 pn S from (St.turn (y := ⟨⟨i1, i2, i3, i4, i5, i6, i7, S⟩, q5, pn, d5⟩) ⟨W7.out, W6.out.2.1⟩ T78.out (fun k hk e => (W6.out.2.2 k hk).2.1 e)).1)
    have X8 := Lib.hid (X7.out.turn T78.out (fun e => by omega))
    have HK8 : Hid (∀ k, (0 < pn ∧ ∃ a, q5 = some a ∧ a.block = k) → k ≠ g ∧ k ≠ b ∧ k < w8.heap.size ∧ w.heap.size ≤ k) := Lib.hid (fun k hk => by
      have h1 := W6.out.2.2 k hk
      have h2 := T78.out.size
      have h3 := HZ7.out
      exact ⟨h1.1, h1.2.1, by omega, h1.2.2.2⟩)
    clear X7 R7 T7 T78 W7 A3 B6 R2 T2 ap3
    have hlen : (l.set i ⟨⟨i1, i2, i3 - units, i4, i5, i6, i7, S⟩, some ⟨bs, os, none⟩, pn, pc⟩).length = n := by rw [List.length_set, HN.out]
    have ho := R8.out.row
    rw [hlen] at ho
    have hbb := R8.out.blk
    have hs8 : B ≤ w8.heap.size := Nat.le_trans R8.out.base (Nat.le_of_lt hbb.lt)
    have m0 : w8.cell? ⟨g, 0, none⟩ = some (.slice (some ⟨b, 0, none⟩) n d0) := hbb.cell 0
    have x0 : w8.cell? ⟨w2.heap.size, 0, none⟩ = some (.int .i64 (given + 1)) := X8.out.cell 0
    have x1 : w8.cell? ⟨w2.heap.size, 1, none⟩ = some (.int .i64 i2) := X8.out.cell 1
    have x2 : w8.cell? ⟨w2.heap.size, 2, none⟩ = some (.int .i64 units) := X8.out.cell 2
    have x3 : w8.cell? ⟨w2.heap.size, 3, none⟩ = some (.int .i64 i4) := X8.out.cell 3
    have x4 : w8.cell? ⟨w2.heap.size, 4, none⟩ = some (.int .i64 i5) := X8.out.cell 4
    have x5 : w8.cell? ⟨w2.heap.size, 5, none⟩ = some (.int .i64 i6) := X8.out.cell 5
    have x6 : w8.cell? ⟨w2.heap.size, 6, none⟩ = some (.int .i64 i7) := X8.out.cell 6
    have x7 : w8.cell? ⟨w2.heap.size, 7, none⟩ = some (.slice q5 pn d5) := X8.out.cell 7
    have ne : (Value.slice (some ⟨b, 0, none⟩) n d0).ownBlock ≠ some g := own_blk_ne ho hbb (by decide)
    have lg := hbb.lt
    have lm := X8.out.lt
    clear hlen
    go_region_law
      ((refine step_append_lies _ (by rfl) _ _ _ (by rfl) B 50 i0 _ 8 80 Tryz.underlying35 hi0' hz0 hz1 hz2 rfl (by omega) (.slice (some ⟨b, 0, none⟩) n d0) n _ (by rfl) ((ho.alloc _).drew)
          ⟨w8.heap.size, 0, none⟩ 1 1 [.int .i64 (given + 1), .int .i64 i2, .int .i64 units, .int .i64 i4, .int .i64 i5, .int .i64 i6, .int .i64 i7, .slice q5 pn d5] (by rfl) (by rfl) (World.news_of_block (cs := #[.int .i64 (given + 1), .int .i64 i2, .int .i64 units, .int .i64 i4, .int .i64 i5, .int .i64 i6, .int .i64 i7, .slice q5 pn d5]) (t := 50) (fr := (0, 0)) (heap_alloc_new w8 _)) (by simp [Value.oneCell'])
          (by omega) (by unfold maxLen; omega) (by omega) (by simp; omega) (w8.heap.size + 1) (by simp) ?_; intro gg cap w9 hown1 hgrow hat hlt; have fb := ((hbb.alloc (.cells #[.int .i64 (given + 1), .int .i64 i2, .int .i64 units, .int .i64 i4, .int .i64 i5, .int .i64 i6, .int .i64 i7, .slice q5 pn d5] 50)).drewN 1).grown (w' := w9) hgrow (Ne.symm ne); have f2 := fb.frozen 0; have c2 : w9.cell? ⟨g, 0, none⟩ = some (.slice (some ⟨b, 0, none⟩) n d0) := fb.cell 0))
    all_goals
      have c1 : w9.cell? ⟨g, 1, none⟩ = some (.int .i64 (given + 1)) := fb.cell 1
      have HF := Lib.hid (split_end (y := ⟨⟨i1, i2, i3, i4, i5, i6, i7, S⟩, some ⟨bs, os, none⟩, pn, pc⟩) (units := units) T8.out R8.out HN.out hown1 hgrow (hat.imp (fun e => by simpa [Value.ownBlock] using e.symm) (fun e => by omega)) fb W8.out W6.out.2.1 HK8.out HY.out)
      clear hown1 hgrow hat hlt fb ho hbb
      go_wp2
      go_ret2
      exact ⟨by rw [HV.out]; rfl, by rw [HV.out]; exact HF.out⟩
end Lo
end Go.Proofs.YtkfmkchonlajpaaGreat

namespace Go.Proofs.YtkfmkchonlajpaaGreat
open Go.RowKit Go.Maps

/-- An append at a step of a region that draws its order, onto a row of the call's own, of none or more. -/
theorem step_append_at {P : Program} {w : World} {ops : Array Oper} {o : Oper} {a : Act} {K : Act → World → Prop} {Q : Exit → Act → World → Prop} {E : Prop} (hgd : o.guard = none) (s x : Operand) (t : TypeId)
    (ho : o.op = .call { callee := .builtin .append, args := #[s, x], argTypes := #[t, t] })
    (base : Nat) (e : TypeId) (i : TypeInfo) (z : Value) (size bytes : Nat) (ht : P.underlying t = some (.slice e)) (hi : P.info? e = some i) (hz : i.zero = some z)
    (hsize : i.size = size) (hby : i.bytes = bytes) (hzs : z.cells.size = size) (hsz : 0 < size)
    (v : Value) (n : Nat) (xs : List Value) (hs : a.eval s = v) (hown : w.ownsRow base e size v n xs)
    (ad : Addr) (m c : Nat) (news : List Value) (hx : a.eval x = .slice (some ad) m c) (hl : news.length = m * size) (hnews : ∀ j u, news[j]? = some u → w.cell? (ad.add j) = some u) (h1 : ∀ u ∈ news, u.oneCell' = true)
    (h63 : n + m ≤ maxLen) (hbytes : (n + m) * bytes ≤ 140737488355328) (hbase : base ≤ w.heap.size)
    (h : ∀ q d w', w'.ownsRow base e size (.slice q (n + m) d) (n + m) (xs ++ news) → w.grownBy w' v.ownBlock → ((Value.slice q (n + m) d).ownBlock = v.ownBlock ∨ (Value.slice q (n + m) d).ownBlock = some w.heap.size) → K (a.put o.dst (.slice q (n + m) d)) w') :
    if Region.wanted o (yielded ops a.tmps) = true then Oper.wp P o a w K Q else E := by
  rw [if_pos (by simp [Region.wanted, hgd])]
  obtain ⟨v', w', hr, h2, h3, _, h5⟩ := run_append_own_at (P := P) w base t o.type e i z size bytes ht hi hz hsize hby hzs hsz v n xs hown ad m c news hl hnews h1 h63 hbytes hbase
  obtain ⟨q, d, rfl⟩ := own_slice h2
  unfold Oper.wp execOp
  simp only [ho, resolve, invoke, builtin, Sem.run_bind, Sem.run_pure, Result.andThen_ok, List.map_toArray, List.map_cons, List.map_nil, hs, hx, hr]
  exact h q d w' h2 h3 h5
namespace Lo
theorem merge_none {s : Stk} {into frm : Int} (h : at_ into s.1 = none ∨ at_ frm s.1 = none) : mergeS s into frm = (5, s) := by
  unfold mergeS
  rcases h with h | h
  · rw [h]
  · rw [h]
    cases at_ into s.1 <;> rfl
theorem merge_some {s : Stk} {into frm : Int} {i k : Nat} {x y : Lt} (h : at_ into s.1 = some i) (hk : at_ frm s.1 = some k) (hx : s.1[i]? = some x) (hy : s.1[k]? = some y) :
    mergeS s into frm = if i = k then (1, s) else if inL x = 0 then (8, s) else if alikeB x y = false then (12, s)
      else (0, ((s.1.set i { x with units := x.units + y.units }).eraseIdx k, s.2)) := by
  unfold mergeS
  rw [h, hk]
  simp only [hx, hy]
/-- Other lots, at a place of their own. -/
theorem rs_new {w wr w2 : World} {B g : Nat} {v v2 : Value} {given : Int} {l l2 : List Lv} (hb : Turn (RFoot g v) w wr) (h : RS wr B g v given l) (ho : w2.ownsRow wr.heap.size 50 8 v2 l2.length (l2.flatMap lcells)) (hB : Below wr.heap.size wr w2) (hsub : ∀ y ∈ l2, y ∈ l) {K : Nat → Prop} (hK : ∀ k, Bks l k → K k) :
    RDone w B g v K given l2 (w2.setCell ⟨g, 0, none⟩ v2) := by
  have h2 := h.keep hB
  have hgl := h.blk.lt
  have T2 : Turn (fun k => k = g) w2 (w2.setCell ⟨g, 0, none⟩ v2) := (Turn.refl (fun k => k = g) w2).setCell (p := ⟨g, 0, none⟩) (.inl rfl) _
  have hs := hb.size
  refine ⟨v2, ⟨h.base, by simpa using h2.blk.set_ 0 v2, own_turn (Sy.own_low ho (Nat.le_trans h.base (Nat.le_of_lt hgl))) T2 (fun k hk e => by have := (own_lt ho hk).1; omega), fun z hz => (h2.stays z (hsub z hz)).turn T2 (fun k hk e => (h.apart z (hsub z hz) k hk).1 e), fun z hz k hk => ⟨(h.apart z (hsub z hz) k hk).1, fun e => by
    have h3 := (own_lt ho e).1
    have h4 := (h.stays z (hsub z hz)).lt hk
    omega⟩⟩, (hb.trans (S' := fun _ => False) (Turn.of_below hB) (fun _ hh => hh.elim)).trans (S' := fun k => k = g) T2 (fun i hi => .inl (.inl hi)), fun k hk => .inr (by have := (own_lt ho hk).1; omega), fun k ⟨y, hy, hk⟩ => .inl (hK k ⟨y, hsub y hy, hk⟩)⟩
theorem lcells_one (S : List Lv) : ∀ u ∈ S.flatMap lcells, u.oneCell' = true := by
  intro u hu
  obtain ⟨x, _, hx⟩ := List.mem_flatMap.1 hu
  simp [lcells] at hx
  rcases hx with rfl | rfl | rfl | rfl | rfl | rfl | rfl | rfl <;> rfl
theorem rw_drop {α : Type} {k : Nat} {enc : α → List Value} {w : World} {b o n : Nat} {l : List α} (h : Rw k enc w (some ⟨b, o, none⟩) n l) (m : Nat) (hm : m ≤ n) : Rw k enc w (some ⟨b, o + m * k, none⟩) (n - m) (l.drop m) := by
  refine ⟨by rw [List.length_drop, h.1], fun hp => ⟨b, o + m * k, rfl, fun j x hj i hi => ?_⟩⟩
  obtain ⟨b2, o2, e, hc⟩ := h.2 (by omega)
  injection e with e
  injection e with e1 e2
  subst e1 e2
  rw [List.getElem?_drop] at hj
  rw [← hc (m + j) x hj i hi, Nat.add_mul]
  congr 2
  omega
theorem erase_parts {α : Type} (l : List α) (k : Nat) : l.eraseIdx k = l.take k ++ l.drop (k + 1) := List.eraseIdx_eq_take_drop_succ ..
theorem lts_erase {l : List Lv} {k : Nat} : lts (l.eraseIdx k) = (lts l).eraseIdx k := by
  unfold lts
  rw [erase_parts, erase_parts, List.map_append, List.map_take, List.map_drop]
theorem own_erase {w : World} {B n k : Nat} {v : Value} {L : List Lv} (hL : L.length = n) (hk : k < n) (h : w.ownsRow B 50 8 v (k + (n - (k + 1))) ((L.take k).flatMap lcells ++ (L.drop (k + 1)).flatMap lcells)) :
    w.ownsRow B 50 8 v (L.eraseIdx k).length ((L.eraseIdx k).flatMap lcells) := by
  have h1 : (L.eraseIdx k).length = k + (n - (k + 1)) := by rw [erase_parts, List.length_append, List.length_take, List.length_drop, hL]; omega
  rw [h1, erase_parts, List.flatMap_append]
  exact h
theorem own_erase0 {w : World} {B n k : Nat} {v : Value} {L : List Lv} (hL : L.length = n) (hk : n = k + 1) (h : w.ownsRow B 50 8 v k ((L.take k).flatMap lcells)) :
    w.ownsRow B 50 8 v (L.eraseIdx k).length ((L.eraseIdx k).flatMap lcells) := by
  have h1 : (L.eraseIdx k).length = k := by rw [erase_parts, List.length_append, List.length_take, List.length_drop, hL]; omega
  rw [h1, erase_parts, List.drop_of_length_le (by omega), List.append_nil]
  exact h
set_option maxRecDepth 100000 in
set_option maxHeartbeats 16000000 in
theorem rmerge_none (B g : Nat) (v : Value) (given : Int) (l : List Lv) (into frm : Int) (w : World) (h : RS w B g v given l) (hG : Good (lts l, given)) (hno : at_ into (lts l) = none ∨ at_ frm (lts l) = none) :
    Calls Tryz.prog 31 #[.pointer (some ⟨g, 0, none⟩), .int .i64 into, .int .i64 frm] w fun e w' => e = .returned (.int .i64 5) ∧ RAc2 w B g v (Bks l) (lts l, given) w' := by
  have hL : l.length ≤ 256 := by have := good_len hG; simpa [lts] using this
  have C1 := Lib.hid (rat_any B g v given l into w h (by omega))
  have C2 := Lib.hid (rat_any B g v given l frm w h (by omega))
  have HE := Lib.hid (ract2_same h (Below.refl _ _))
  have hcase : (atI into (lts l) < 0 ∧ -1 ≤ atI into (lts l)) ∨ (0 ≤ atI into (lts l) ∧ atI frm (lts l) = -1) := by
    cases ha : at_ into (lts l) with
    | none => exact .inl (by rw [atI_none ha]; decide)
    | some i =>
      rcases hno with hno | hno
      · rw [ha] at hno
        cases hno
      · exact .inr ⟨by rw [atI_some ha]; omega, atI_none hno⟩
  generalize atI into (lts l) = ai at *
  generalize atI frm (lts l) = af at *
  clear h hG hno
  rcases hcase with ⟨c1, _⟩ | ⟨c1, rfl⟩
  · go_enter Tryz.func31, Tryz.ntmps31
    go_wp2_with fail
    refine C1.out.mono ?_
    rintro e w' ⟨rfl, rfl⟩
    go_wp2_with fail
    refine C2.out.mono ?_
    rintro e w' ⟨rfl, rfl⟩
    go_wp2
    go_ret
    exact ⟨rfl, HE.out⟩
  · have c2 : ¬ ai < 0 := by omega
    go_enter Tryz.func31, Tryz.ntmps31
    go_wp2_with fail
    refine C1.out.mono ?_
    rintro e w' ⟨rfl, rfl⟩
    go_wp2_with fail
    refine C2.out.mono ?_
    rintro e w' ⟨rfl, rfl⟩
    go_wp2
    go_ret
    exact ⟨rfl, HE.out⟩
set_option maxRecDepth 100000 in
set_option maxHeartbeats 16000000 in
theorem rmerge_some (B g : Nat) (v : Value) (given : Int) (l : List Lv) (into frm : Int) (w : World) (h : RS w B g v given l) (hG : Good (lts l, given)) (i k : Nat) (y z : Lv) (ha : at_ into (lts l) = some i) (hb : at_ frm (lts l) = some k) (hy : l[i]? = some y) (hyx : (lts l)[i]? = some y.x) (hz : l[k]? = some z) (hzx : (lts l)[k]? = some z.x) :
    Calls Tryz.prog 31 #[.pointer (some ⟨g, 0, none⟩), .int .i64 into, .int .i64 frm] w fun e w' => e = .returned (.int .i64 ((mergeS (lts l, given) into frm).1 : Nat)) ∧ RAc2 w B g v (Bks l) (mergeS (lts l, given) into frm).2 w' := by
  obtain ⟨i0, hi0', hz0, hz1, hz2⟩ := info_parts infoL9
  have hL : l.length ≤ 256 := by have := good_len hG; simpa [lts] using this
  have C1 := Lib.hid (rat_any B g v given l into w h (by omega))
  have C2 := Lib.hid (rat_any B g v given l frm w h (by omega))
  rw [atI_some ha] at C1
  rw [atI_some hb] at C2
  have HE := Lib.hid (fun W (hW : Below w.heap.size w W) => ract2_same h hW)
  have HR := Lib.hid (merge_some (s := (lts l, given)) ha hb hyx hzx)
  generalize mergeS (lts l, given) into frm = r at *
  obtain ⟨q0, d0, rfl⟩ := rs_slice h
  obtain ⟨n, hn⟩ : ∃ n, l.length = n := ⟨_, rfl⟩
  rw [hn] at hL h
  obtain ⟨b, e, hBb, hbg, hc⟩ := rs_at h hn hy
  obtain ⟨b', e', _, _, hc'⟩ := rs_at h hn hz
  subst e
  injection e' with e'
  injection e' with e'
  subst e'
  have hi : (i : Int) < (n : Int) := by have := (List.getElem?_eq_some_iff.1 hy).1; omega
  have hk : (k : Int) < (n : Int) := by have := (List.getElem?_eq_some_iff.1 hz).1; omega
  have hL' : (n : Int) ≤ 256 := by omega
  have hi0 : ¬ (i : Int) < 0 := by omega
  have hk0 : ¬ (k : Int) < 0 := by omega
  have hmy := List.mem_of_getElem? hyx
  have hmz := List.mem_of_getElem? hzx
  have hsty := h.stays y (List.mem_of_getElem? hy)
  have hstz := h.stays z (List.mem_of_getElem? hz)
  have hly : y.n ≤ 1000000 := by
    have := hG.long y.x hmy
    rw [hsty.len] at this
    omega
  have huy := good_units hG hmy
  have huz := good_units hG hmz
  have CI := Lib.hid (fun W (hW : Below w.heap.size w W) => rin_any y W (hsty.keep hW) hly)
  have CA := Lib.hid (fun W (hW : Below w.heap.size w W) => ralike_any y z W (hsty.keep hW) (hstz.keep hW) hly)
  have HK := Lib.hid (fun w1 (hb : Below w.heap.size w w1) => h.keep hb)
  have HC := Lib.hid hc
  have HC' := Lib.hid hc'
  have HN := Lib.hid hn
  have HY := Lib.hid hy
  have HZ := Lib.hid hz
  have m0 : w.cell? ⟨g, 0, none⟩ = some (.slice (some ⟨b, 0, none⟩) n d0) := h.blk.cell 0
  clear h hG hy hyx hz hzx ha hb hn hmy hmz hsty hstz hly hc hc'
  obtain ⟨⟨i1, i2, i3, i4, i5, i6, i7, S⟩, p, pn, pc⟩ := y
  obtain ⟨⟨j1, j2, j3, j4, j5, j6, j7, S2⟩, q, qn, qc⟩ := z
  unfold lval at *
  simp only at CI CA HR huy huz
  obtain ⟨hu0, hu1⟩ := huy
  obtain ⟨hv0, hv1⟩ := huz
  generalize inL ⟨i1, i2, i3, i4, i5, i6, i7, S⟩ = ii at *
  generalize alikeB ⟨i1, i2, i3, i4, i5, i6, i7, S⟩ ⟨j1, j2, j3, j4, j5, j6, j7, S2⟩ = al at *
  have k0 : w.cell? ⟨b, i * 8, none⟩ = some (.int .i64 i1) := HC.out w (Below.refl _ _) 0 (by decide)
  have k1 : w.cell? ⟨b, i * 8 + 1, none⟩ = some (.int .i64 i2) := HC.out w (Below.refl _ _) 1 (by decide)
  have k2 : w.cell? ⟨b, i * 8 + 2, none⟩ = some (.int .i64 i3) := HC.out w (Below.refl _ _) 2 (by decide)
  have k3 : w.cell? ⟨b, i * 8 + 3, none⟩ = some (.int .i64 i4) := HC.out w (Below.refl _ _) 3 (by decide)
  have k4 : w.cell? ⟨b, i * 8 + 4, none⟩ = some (.int .i64 i5) := HC.out w (Below.refl _ _) 4 (by decide)
  have k5 : w.cell? ⟨b, i * 8 + 5, none⟩ = some (.int .i64 i6) := HC.out w (Below.refl _ _) 5 (by decide)
  have k6 : w.cell? ⟨b, i * 8 + 6, none⟩ = some (.int .i64 i7) := HC.out w (Below.refl _ _) 6 (by decide)
  have k7 : w.cell? ⟨b, i * 8 + 7, none⟩ = some (.slice p pn pc) := HC.out w (Below.refl _ _) 7 (by decide)
  by_cases h1 : i = k
  · have HV := Lib.hid (HR.out.trans (if_pos h1))
    subst h1
    clear HR CI CA
    go_enter Tryz.func31, Tryz.ntmps31
    go_wp2_with fail
    refine C1.out.mono ?_
    rintro e w' ⟨rfl, rfl⟩
    go_wp2_with fail
    refine C2.out.mono ?_
    rintro e w' ⟨rfl, rfl⟩
    go_wp2
    go_ret
    exact ⟨by rw [HV.out]; rfl, by rw [HV.out]; exact HE.out _ (Below.refl _ _)⟩
  have HR := Lib.hid (HR.out.trans (if_neg h1))
  have h1' : ((i : Int) == (k : Int)) = false := by rw [beq_eq_false_iff_ne]; omega
  have H1 := Lib.hid h1
  clear h1
  go_enter Tryz.func31, Tryz.ntmps31
  go_wp2_with fail
  refine C1.out.mono ?_
  rintro e w' ⟨rfl, rfl⟩
  go_wp2_with fail
  refine C2.out.mono ?_
  rintro e w' ⟨rfl, rfl⟩
  go_wp2_with fail
  refine (CI.out _ (Below.refl _ _)).mono ?_
  rintro e w1 ⟨rfl, hb⟩
  have B1 := Lib.hid hb
  clear hb CI C1 C2 m0 h1' k0 k1 k2 k3 k4 k5 k6 k7
  by_cases h2 : ii = 0
  · have HV := Lib.hid (HR.out.trans (if_pos h2))
    have t2 : (ii == 0) = true := by simp [h2]
    clear h2
    go_wp2
    go_ret
    exact ⟨by rw [HV.out]; rfl, by rw [HV.out]; exact HE.out _ B1.out⟩
  have HR := Lib.hid (HR.out.trans (if_neg h2))
  have t2 : (ii == 0) = false := by simp [h2]
  clear h2
  have m0 : w1.cell? ⟨g, 0, none⟩ = some (.slice (some ⟨b, 0, none⟩) n d0) := (HK.out _ B1.out).blk.cell 0
  have k0 : w1.cell? ⟨b, i * 8, none⟩ = some (.int .i64 i1) := HC.out w1 B1.out 0 (by decide)
  have k1 : w1.cell? ⟨b, i * 8 + 1, none⟩ = some (.int .i64 i2) := HC.out w1 B1.out 1 (by decide)
  have k2 : w1.cell? ⟨b, i * 8 + 2, none⟩ = some (.int .i64 i3) := HC.out w1 B1.out 2 (by decide)
  have k3 : w1.cell? ⟨b, i * 8 + 3, none⟩ = some (.int .i64 i4) := HC.out w1 B1.out 3 (by decide)
  have k4 : w1.cell? ⟨b, i * 8 + 4, none⟩ = some (.int .i64 i5) := HC.out w1 B1.out 4 (by decide)
  have k5 : w1.cell? ⟨b, i * 8 + 5, none⟩ = some (.int .i64 i6) := HC.out w1 B1.out 5 (by decide)
  have k6 : w1.cell? ⟨b, i * 8 + 6, none⟩ = some (.int .i64 i7) := HC.out w1 B1.out 6 (by decide)
  have k7 : w1.cell? ⟨b, i * 8 + 7, none⟩ = some (.slice p pn pc) := HC.out w1 B1.out 7 (by decide)
  have l0 : w1.cell? ⟨b, k * 8, none⟩ = some (.int .i64 j1) := HC'.out w1 B1.out 0 (by decide)
  have l1 : w1.cell? ⟨b, k * 8 + 1, none⟩ = some (.int .i64 j2) := HC'.out w1 B1.out 1 (by decide)
  have l2 : w1.cell? ⟨b, k * 8 + 2, none⟩ = some (.int .i64 j3) := HC'.out w1 B1.out 2 (by decide)
  have l3 : w1.cell? ⟨b, k * 8 + 3, none⟩ = some (.int .i64 j4) := HC'.out w1 B1.out 3 (by decide)
  have l4 : w1.cell? ⟨b, k * 8 + 4, none⟩ = some (.int .i64 j5) := HC'.out w1 B1.out 4 (by decide)
  have l5 : w1.cell? ⟨b, k * 8 + 5, none⟩ = some (.int .i64 j6) := HC'.out w1 B1.out 5 (by decide)
  have l6 : w1.cell? ⟨b, k * 8 + 6, none⟩ = some (.int .i64 j7) := HC'.out w1 B1.out 6 (by decide)
  have l7 : w1.cell? ⟨b, k * 8 + 7, none⟩ = some (.slice q qn qc) := HC'.out w1 B1.out 7 (by decide)
  go_wp2_with fail
  go_still_tail 14, (by kernel_rfl)
  clear t2 m0 k0 k1 k2 k3 k4 k5 k6 k7 l0 l1 l2 l3 l4 l5 l6 l7
  obtain ⟨w2, hw2⟩ : ∃ w2, w1.drew = w2 := ⟨_, rfl⟩
  have B2 : Hid (Below w.heap.size w w2) := Lib.hid (by rw [← hw2]; exact below_drewN B1.out 1)
  rw [show ({ heap := w1.heap, tape := w1.tape, drawn := w1.drawn + 1, os := w1.os, output := w1.output } : World) = w2 from hw2]
  clear hw2 B1
  go_wp2_with fail
  refine (CA.out _ B2.out).mono ?_
  rintro e w3 ⟨rfl, hb⟩
  have B3 := Lib.hid (B2.out.trans (hb.mono B2.out.size))
  clear hb B2 CA
  cases al with
  | false =>
    have HV := Lib.hid (HR.out.trans (if_pos rfl))
    go_wp2
    go_ret
    exact ⟨by rw [HV.out]; rfl, by rw [HV.out]; exact HE.out _ B3.out⟩
  | true =>
    have HV := Lib.hid (HR.out.trans (if_neg (by decide)))
    clear HR HE
    have R3 := HK.out _ B3.out
    have m0 : w3.cell? ⟨g, 0, none⟩ = some (.slice (some ⟨b, 0, none⟩) n d0) := R3.blk.cell 0
    have k2 : w3.cell? ⟨b, i * 8 + 2, none⟩ = some (.int .i64 i3) := HC.out w3 B3.out 2 (by decide)
    have l2 : w3.cell? ⟨b, k * 8 + 2, none⟩ = some (.int .i64 j3) := HC'.out w3 B3.out 2 (by decide)
    have q1 : IntKind.i64.wrap (i3 + j3) = i3 + j3 := IntWalk.i64_in _ (by omega)
    have RR3 := Lib.hid R3
    clear R3
    go_wp2_with fail
    go_still_tail 24, (by kernel_rfl)
    clear q1 m0 k2 l2
    obtain ⟨w4, hw4⟩ : ∃ w4, w3.drew = w4 := ⟨_, rfl⟩
    have B4 : Hid (Below w3.heap.size w3 w4) := Lib.hid (by rw [← hw4]; exact (Below.refl _ w3).drew)
    rw [show ({ heap := w3.heap, tape := w3.tape, drawn := w3.drawn + 1, os := w3.os, output := w3.output } : World) = w4 from hw4]
    clear hw4
    have R4 := Lib.hid (RR3.out.keep B4.out)
    have hr4 := R4.out.row
    rw [HN.out] at hr4
    have k2 : w4.cell? ⟨b, i * 8 + 2, none⟩ = some (.int .i64 i3) := row_cell lcells_len hr4 HN.out HY.out (i := 2) (by decide)
    have f2 : w4.frozen? ⟨b, i * 8 + 2, none⟩ = false := hr4.frozenAt _
    have st4 := R4.out.stays _ (List.mem_of_getElem? HY.out)
    have ap4 := R4.out.apart _ (List.mem_of_getElem? HY.out)
    have R5 := Lib.hid (rs_cell R4.out HN.out HY.out (y' := ⟨⟨i1, i2, i3 + j3, i4, i5, i6, i7, S⟩, p, pn, pc⟩) (j := 2) (by decide) (u := .int .i64 (i3 + j3)) rfl st4 (fun k hk => ⟨(ap4 k hk).1, fun e => (ap4 k hk).2 (by rw [e]; rfl)⟩))
    have T5 := Lib.hid (((Turn.of_below (S := RFoot g (.slice (some ⟨b, 0, none⟩) n d0)) B3.out).trans (S' := fun _ => False) (Turn.of_below B4.out) (fun _ hh => hh.elim)).setCell (p := ⟨b, i * 8 + 2, none⟩) (.inl (.inr rfl)) (.int .i64 (i3 + j3)))
    go_upto_region 13 with fail
    clear k2 f2 hr4 st4 ap4
    obtain ⟨w5, hw5⟩ : ∃ w5, w4.setCell ⟨b, i * 8 + 2, none⟩ (.int .i64 (i3 + j3)) = w5 := ⟨_, rfl⟩
    rw [hw5] at R5 T5 ⊢
    clear hw5 R4 B3 B4 RR3 HK HC HC'
    have HLT : Hid (lts (l.set i ⟨⟨i1, i2, i3 + j3, i4, i5, i6, i7, S⟩, p, pn, pc⟩) = (lts l).set i ⟨i1, i2, i3 + j3, i4, i5, i6, i7, S⟩) := Lib.hid lts_set
    have HLN : Hid ((l.set i ⟨⟨i1, i2, i3 + j3, i4, i5, i6, i7, S⟩, p, pn, pc⟩).length = n) := Lib.hid (by rw [List.length_set, HN.out])
    have HBK : Hid (∀ k, Bks (l.set i ⟨⟨i1, i2, i3 + j3, i4, i5, i6, i7, S⟩, p, pn, pc⟩) k → Bks l k) := Lib.hid (fun k hk => bks_same (y' := ⟨⟨i1, i2, i3 + j3, i4, i5, i6, i7, S⟩, p, pn, pc⟩) HY.out (fun _ hh => hh) hk)
    generalize l.set i ⟨⟨i1, i2, i3 + j3, i4, i5, i6, i7, S⟩, p, pn, pc⟩ = L at *
    have hbb := R5.out.blk
    have hrw := R5.out.row
    rw [HLN.out] at hrw
    have hnc : n ≤ d0 ∧ d0 ≤ maxLen := by
      rcases hrw.2 with ⟨e, _⟩ | ⟨_, cap, _, e, _, _, h1, h2, _⟩
      · cases e
      · injection e with _ _ e
        rw [e]
        exact ⟨h1, h2⟩
    have RW5 := Lib.hid (show Rw 8 lcells w5 (some ⟨b, 0, none⟩) n L from by
      have hr := R5.out.row
      obtain ⟨q6, c6, e6, _, hr6⟩ := rw_own lcells_len hr
      injection e6 with e1 e2 e3
      rw [← e1] at hr6
      rw [HLN.out] at hr6
      exact hr6)
    have hkn : k < n := by omega
    have RT := Lib.hid (RW5.out.take k (by omega))
    have m0 : w5.cell? ⟨g, 0, none⟩ = some (.slice (some ⟨b, 0, none⟩) n d0) := hbb.cell 0
    have lg := hbb.lt
    have OE := Lib.hid ((own_empty w5 w5.heap.size (Nat.le_refl _) 50 8).drew)
    have hd1 : (n : Int) ≤ (d0 : Int) := by omega
    have q1 : IntKind.i64.wrap ((k : Int) + 1) = (k : Int) + 1 := IntWalk.i64_in _ (by omega)
    have q2 : ((k : Int) + 1).toNat = k + 1 := by omega
    unfold maxLen at hnc
    have hkd : k ≤ d0 := by omega
    have hkd1 : k + 1 ≤ n := by omega
    have hkd2 : k + 1 ≤ d0 := by omega
    have hkd3 : 0 ≤ (k : Int) + 1 := by omega
    have hkd4 : (k : Int) + 1 ≤ (n : Int) := by omega
    have hkd5 : d0 = k + 1 → n - (k + 1) = 0 := by omega
    have RD : Hid (Rw 8 lcells w5 (some ⟨b, (k + 1) * 8, none⟩) (n - (k + 1)) (L.drop (k + 1))) := Lib.hid (by have hr := rw_drop RW5.out (k + 1) (by omega); rw [Nat.zero_add] at hr; exact hr)
    by_cases hcap : d0 = k + 1
    · subst hcap
      have hkd6 : (k : Int) ≤ (k : Int) + 1 := by omega
      go_region_law
        ((first | (refine step_append_at rfl _ _ _ rfl w5.heap.size 50 i0 _ 8 80 Tryz.underlying35 hi0' hz0 hz1 hz2 rfl (by decide) (.slice (some ⟨w5.heap.size, 0, none⟩) 0 0) 0 [] (by rfl) OE.out ⟨b, 0, none⟩ k (k + 1) ((L.take k).flatMap lcells) (by rfl) (by rw [flat_len lcells_len, RT.out.1]) (rw_news lcells_len (by decide) (RT.out.keep lcells_len ((alloc_below w5 _).drew))) (lcells_one _) (by unfold maxLen; omega) (by omega) (by simp) ?_; intro q1' d1 w6 ho6 hg6 hat6; rw [Nat.zero_add, List.nil_append] at ho6; have B6 := Lib.hid (((alloc_below w5 (.cells #[] 50)).drew).grown hg6 (by simp) (fun k hk => (own_lt OE.out hk).1)); have c6 : w6.cell? ⟨g, 0, none⟩ = some (.slice (some ⟨b, 0, none⟩) n (k + 1)) := (hbb.below B6.out lg).cell 0) | (refine step_append_at rfl _ _ _ rfl w5.heap.size 50 i0 _ 8 80 Tryz.underlying35 hi0' hz0 hz1 hz2 rfl (by decide) (.slice q1' k d1) k ((L.take k).flatMap lcells) (by rfl) ho6 ⟨b, 0, none⟩ 0 0 [] (by rfl) (by rfl) (by intro j u hj; cases hj) (by intro u hu; cases hu) (by unfold maxLen; omega) (by omega) B6.out.size ?_; intro q2' d2 w7 ho7 hg7 hat7; have B7 := Lib.hid (B6.out.grown hg7 B6.out.size (fun k hk => (own_lt ho6 hk).1)); have c7 : w7.cell? ⟨g, 0, none⟩ = some (.slice (some ⟨b, 0, none⟩) n (k + 1)) := (hbb.below B7.out lg).cell 0; have f7 : w7.frozen? ⟨g, 0, none⟩ = false := (hbb.below B7.out lg).frozen 0)))
      all_goals
        have HF := Lib.hid (rs_new T5.out R5.out (own_erase0 (n := n) (k := k) HLN.out (by omega) (by rw [Nat.add_zero, List.append_nil] at ho7; exact ho7)) B7.out (fun y hy => List.mem_of_mem_eraseIdx hy) HBK.out)
        clear ho6 hg6 hat6 ho7 hg7 hat7 B6 B7 c6
        go_wp2
        go_ret
        exact ⟨by rw [HV.out]; rfl, by rw [HV.out, HN.out]; exact ⟨L.eraseIdx k, by rw [lts_erase, HLT.out], HF.out⟩⟩
    · have hd2 : k + 1 < d0 := by omega
      go_region_law
        ((first | (refine step_append_at rfl _ _ _ rfl w5.heap.size 50 i0 _ 8 80 Tryz.underlying35 hi0' hz0 hz1 hz2 rfl (by decide) (.slice (some ⟨w5.heap.size, 0, none⟩) 0 0) 0 [] (by rfl) OE.out ⟨b, 0, none⟩ k d0 ((L.take k).flatMap lcells) (by rfl) (by rw [flat_len lcells_len, RT.out.1]) (rw_news lcells_len (by decide) (RT.out.keep lcells_len ((alloc_below w5 _).drew))) (lcells_one _) (by unfold maxLen; omega) (by omega) (by simp) ?_; intro q1' d1 w6 ho6 hg6 hat6; rw [Nat.zero_add, List.nil_append] at ho6; have B6 := Lib.hid (((alloc_below w5 (.cells #[] 50)).drew).grown hg6 (by simp) (fun k hk => (own_lt OE.out hk).1)); have c6 : w6.cell? ⟨g, 0, none⟩ = some (.slice (some ⟨b, 0, none⟩) n d0) := (hbb.below B6.out lg).cell 0) | (refine step_append_at rfl _ _ _ rfl w5.heap.size 50 i0 _ 8 80 Tryz.underlying35 hi0' hz0 hz1 hz2 rfl (by decide) (.slice q1' k d1) k ((L.take k).flatMap lcells) (by rfl) ho6 ⟨b, (k + 1) * 8, none⟩ (n - (k + 1)) (d0 - (k + 1)) ((L.drop (k + 1)).flatMap lcells) (by rfl) (by rw [flat_len lcells_len, RD.out.1]) (rw_news lcells_len (by decide) (RD.out.keep lcells_len B6.out)) (lcells_one _) (by unfold maxLen; omega) (by omega) B6.out.size ?_; intro q2' d2 w7 ho7 hg7 hat7; have B7 := Lib.hid (B6.out.grown hg7 B6.out.size (fun k hk => (own_lt ho6 hk).1)); have c7 : w7.cell? ⟨g, 0, none⟩ = some (.slice (some ⟨b, 0, none⟩) n d0) := (hbb.below B7.out lg).cell 0; have f7 : w7.frozen? ⟨g, 0, none⟩ = false := (hbb.below B7.out lg).frozen 0)))
      all_goals
        have HF := Lib.hid (rs_new T5.out R5.out (own_erase (n := n) (k := k) HLN.out hkn ho7) B7.out (fun y hy => List.mem_of_mem_eraseIdx hy) HBK.out)
        clear ho6 hg6 hat6 ho7 hg7 hat7 B6 B7 c6
        go_wp2
        go_ret
        exact ⟨by rw [HV.out]; rfl, by rw [HV.out, HN.out]; exact ⟨L.eraseIdx k, by rw [lts_erase, HLT.out], HF.out⟩⟩
theorem rmerge_any (B g : Nat) (v : Value) (given : Int) (l : List Lv) (into frm : Int) (w : World) (h : RS w B g v given l) (hG : Good (lts l, given)) :
    Calls Tryz.prog 31 #[.pointer (some ⟨g, 0, none⟩), .int .i64 into, .int .i64 frm] w fun e w' => e = .returned (.int .i64 ((mergeS (lts l, given) into frm).1 : Nat)) ∧ RAc2 w B g v (Bks l) (mergeS (lts l, given) into frm).2 w' := by
  cases ha : at_ into (lts l) with
  | none =>
    rw [merge_none (.inl ha)]
    exact rmerge_none B g v given l into frm w h hG (.inl ha)
  | some i =>
    cases hb : at_ frm (lts l) with
    | none =>
      rw [merge_none (.inr hb)]
      exact rmerge_none B g v given l into frm w h hG (.inr hb)
    | some k =>
      obtain ⟨y, hy, hyx⟩ := at_of ha
      obtain ⟨z, hz, hzx⟩ := at_of hb
      exact rmerge_some B g v given l into frm w h hG i k y z ha hb hy hyx hz hzx
end Lo
end Go.Proofs.YtkfmkchonlajpaaGreat

namespace Go.Proofs.YtkfmkchonlajpaaGreat
open Go.RowKit Go.Maps

namespace Lo
theorem put_bad {s : Stk} {x : Lt} (h : ¬ (s.2 < x.id ∧ x.id ≤ 256 ∧ 1 ≤ x.units ∧ x.units ≤ 1048576 ∧ 0 ≤ x.status ∧ x.status ≤ 4 ∧ Sy.Right x.stays ∧ 0 ≤ x.product ∧ 0 ≤ x.expiry ∧ 0 ≤ x.grant ∧ 0 ≤ x.order)) : putS s x = (1, s) := by
  unfold putS putOk
  rw [if_neg (by simpa using h)]
theorem put_ok {s : Stk} {x : Lt} (h : s.2 < x.id ∧ x.id ≤ 256 ∧ 1 ≤ x.units ∧ x.units ≤ 1048576 ∧ 0 ≤ x.status ∧ x.status ≤ 4 ∧ Sy.Right x.stays ∧ 0 ≤ x.product ∧ 0 ≤ x.expiry ∧ 0 ≤ x.grant ∧ 0 ≤ x.order) : putS s x = (0, (s.1 ++ [x], x.id)) := by
  unfold putS putOk
  rw [if_pos (by simpa using h)]
theorem ract2_more {w w' : World} {B g : Nat} {v : Value} {K0 K : Nat → Prop} {s : Stk} (h : RAc2 w B g v K0 s w') (hk : ∀ k, K0 k → K k) : RAc2 w B g v K s w' := by
  obtain ⟨l', h1, v', h2, h3, h4, h5⟩ := h
  exact ⟨l', h1, v', h2, h3, h4, fun k hk' => (h5 k hk').imp (hk k) id⟩
theorem put_end {w w3 w2 : World} {B g gg cap n d : Nat} {given : Int} {l : List Lv} {y : Lv} {q : Option Addr} {ob : Obj} (hb : Turn (RFoot g (.slice q n d)) w w3) (h : RS w3 B g (.slice q n d) given l) (hn : l.length = n)
    (hown : w2.ownsRow B 50 8 (.slice (some ⟨gg, 0, none⟩) (n + 1) cap) (n + 1) (l.flatMap lcells ++ lcells y))
    (hg : (w3.alloc ob).drew.grownBy w2 (Value.slice q n d).ownBlock) (hat : (Value.slice q n d).ownBlock = some gg ∨ gg = w3.heap.size + 1)
    (fb : Lies w2 g 37 #[.slice q n d, .int .i64 given]) (hy : St w3 y) (hk : ∀ k, Bk y k → k ≠ g ∧ (Value.slice q n d).ownBlock ≠ some k) :
    RAc2 w B g (.slice q n d) (fun k => Bks l k ∨ Bk y k) (lts l ++ [y.x], given) (w2.setCell ⟨g, 0, none⟩ (.slice (some ⟨gg, 0, none⟩) (n + 1) cap)) := by
  have T1 : Turn (fun k => (Value.slice q n d).ownBlock = some k) w3 w2 := (((Turn.refl _ w3).alloc ob).drew).grown hg (fun k hk => .inl hk)
  have R := rs_app2 (y := y) (gg := gg) (cap := cap) hb h (by rw [hn]; exact hown) T1 (hat.imp id (fun e => by omega)) fb (hy.turn T1 (fun k hk' e => (hk k hk').2 e)) (fun k hk' => ⟨(hk k hk').1, fun e => by
    rcases hat with hat | hat
    · exact (hk k hk').2 (by rw [hat, e])
    · have := hy.lt hk'
      omega⟩) (K := fun k => Bks l k ∨ Bk y k) (fun k hk' => .inl hk') (fun k hk' => .inl (.inr hk'))
  rw [hn] at R
  exact ⟨_, by rw [lts, List.map_append]; rfl, R⟩
end Lo
end Go.Proofs.YtkfmkchonlajpaaGreat
