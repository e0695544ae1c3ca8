/- Walks over package master's table of Products: the one of a number. No condition but those written. Walks over the document's answer of layer 10: the one of a number (Product); whether two lists are one. No condition but those written. Walks over the document's answer of layer 12: a lot comes. No condition but those written. Walks over the document's answer of layer 12: a lot comes. No condition but those written. Package master and stock, the document's master and stock: four things side by side. Condition: the contracts of packages master and stock. -/
import Derived.Test.YtkfmkchonlajpaaGreatQ05
import Derived.BigQuiet
import Derived.Deep.QuietTactic
import Derived.Test.YtkfmkchonlajpaaGreatQ04
import Derived.Deep.RegionLaw
import Derived.Deep.AppendLies
import Derived.BigRegion
import Derived.Deep.CutRange
import Derived.Test.YtkfmkchonlajpaaGreatQ03
import Derived.Test.YtkfmkchonlajpaaGreatQ06
namespace Go.Proofs.YtkfmkchonlajpaaGreat
open Go.RowKit Go.Maps

namespace Ms
theorem infoTP : (Tryz.prog.info? 64).map (fun i => (i.zero, i.size, i.bytes)) = some (some (.agg #[.int .i64 0, .int .i64 0, .int .i64 0]), 3, 24) := by kernel_rfl
theorem tlookP {w : World} {B : Nat} {mo : Option Nat} {S : List Pd} (ht : Tab Pf Pd.id w B mo S) {m : Int} (hm : In64 m) (W : World) (hW : Below w.heap.size w W) :
    (Instr.lookup 92 (.map mo) (.int .i64 m) true).run Tryz.prog W = .ok (.tuple #[pval ((findK Pd.id m S).getD pd0), .bool (findK Pd.id m S).isSome]) W := by
  rcases ht with ⟨rfl, rfl⟩ | ⟨b, D, rfl, _, hown, hM⟩
  · rw [Maps.look_nil true lawI Tryz.underlying92 (zeroP W) (key_of hm)]
    rfl
  · exact look Tryz.underlying92 pd0 zeroP hown hM hm W (hW.block b hown.lt)
set_option maxRecDepth 100000 in
set_option maxHeartbeats 4000000 in
/-- The one of a number. -/
theorem trowP (B h : Nat) (mz mp : Option Nat) (S : List Pd) (m : Int) (w : World) (hl : Lies w h 96 #[.map mz, .map mp]) (ht : Tab Pf Pd.id w B mp S) (hm : In64 m) :
    Calls Tryz.prog 76 #[.pointer (some ⟨h, 1, none⟩), .int .i64 m] w fun e w' =>
      e = .returned (.tuple #[pval (getK (findK Pd.id m S) pd0).1, .int .i64 ((getK (findK Pd.id m S) pd0).2 : Nat)]) ∧ Below w.heap.size w w' := by
  have K := fun W hW => tlookP ht hm W hW
  generalize findK Pd.id m S = o at *
  have B1 := Lib.hid (alloc_below w (.cells #[.int .i64 0, .int .i64 0, .int .i64 0] 64))
  have L1 := Lib.hid (hl.alloc (.cells #[.int .i64 0, .int .i64 0, .int .i64 0] 64))
  have X1 := Lib.hid (Lies.new w 64 #[.int .i64 0, .int .i64 0, .int .i64 0])
  have HS : Hid (w.heap.size < (w.alloc (.cells #[.int .i64 0, .int .i64 0, .int .i64 0] 64)).heap.size) := Lib.hid (by simp)
  obtain ⟨w1, hw1⟩ : ∃ w1, w.alloc (.cells #[.int .i64 0, .int .i64 0, .int .i64 0] 64) = w1 := ⟨_, rfl⟩
  rw [hw1] at B1 L1 X1 HS
  have k1 := K w1 B1.out
  have l0 : w1.cell? ⟨h, 1, none⟩ = some (.map mp) := L1.out.cell 1
  have FC : ∀ ob i, (w1.alloc ob).cell? ⟨w.heap.size, i, none⟩ = w1.cell? ⟨w.heap.size, i, none⟩ := fun ob i => (alloc_below w1 ob).cell (p := ⟨w.heap.size, i, none⟩) HS.out
  have FG : ∀ ob i, (w1.alloc ob).frozen? ⟨w.heap.size, i, none⟩ = w1.frozen? ⟨w.heap.size, i, none⟩ := fun ob i => (alloc_below w1 ob).frozen (p := ⟨w.heap.size, i, none⟩) HS.out
  clear K ht hm hl
  have r0 : w1.cell? ⟨w.heap.size, 0, none⟩ = some (.int .i64 0) := X1.out.cell 0
  have g0 := X1.out.frozen 0
  have r1 : w1.cell? ⟨w.heap.size, 1, none⟩ = some (.int .i64 0) := X1.out.cell 1
  have g1 := X1.out.frozen 1
  have r2 : w1.cell? ⟨w.heap.size, 2, none⟩ = some (.int .i64 0) := X1.out.cell 2
  have g2 := X1.out.frozen 2
  cases o with
  | none =>
    simp only [Option.getD_none, Option.isSome_none, pd0, pval] at k1
    go_enter Tryz.func76, Tryz.ntmps76
    go_wp2
    refine bodyPost_ret (v := .tuple #[pval pd0, .int .i64 5]) (by simp [results, Tryz.results76, go_sem, pval, pd0, r0, r1, r2, FC]) rfl ⟨rfl, ?_⟩
    iterate 3 refine Below.setCell ?_ (show w.heap.size ≤ _ from Nat.le_refl _) _
    exact B1.out.alloc B1.out.size _
  | some y =>
    obtain ⟨a, b, c⟩ := y
    simp only [Option.getD_some, Option.isSome_some, pval] at k1
    go_enter Tryz.func76, Tryz.ntmps76
    go_wp2
    refine bodyPost_ret (v := .tuple #[pval ⟨a, b, c⟩, .int .i64 0]) (by simp [results, Tryz.results76, go_sem, pval, r0, r1, r2, FC]) rfl ⟨rfl, ?_⟩
    iterate 3 refine Below.setCell ?_ (show w.heap.size ≤ _ from Nat.le_refl _) _
    exact B1.out.alloc B1.out.size _
end Ms
end Go.Proofs.YtkfmkchonlajpaaGreat

namespace Go.Proofs.YtkfmkchonlajpaaGreat
open Go.RowKit

namespace Ms
set_option maxRecDepth 100000 in
set_option maxHeartbeats 8000000 in
theorem rrowP_any (B g : Nat) (vz vp : Value) (Z : List Zn) (P : List Pd) (m : Int) (w : World) (h : RM w B g vz vp Z P) (hL : P.length ≤ 1000000) :
    Calls Tryz.prog 65 #[.pointer (some ⟨g, 0, none⟩), .int .i64 m] w fun e w' =>
      e = .returned (.tuple #[pval (getK (findK Pd.id m P) pd0).1, .int .i64 ((getK (findK Pd.id m P) pd0).2 : Nat)]) ∧ Below w.heap.size w w' := by
  have B1 := Lib.hid (alloc_below w (.cells #[.int .i64 0, .int .i64 0, .int .i64 0] 64))
  have X1 := Lib.hid (Lies.new w 64 #[.int .i64 0, .int .i64 0, .int .i64 0])
  have H1 := h.keep B1.out
  obtain ⟨w1, hw1⟩ : ∃ w1, w.alloc (.cells #[.int .i64 0, .int .i64 0, .int .i64 0] 64) = w1 := ⟨_, rfl⟩
  rw [hw1] at B1 X1 H1
  obtain ⟨q0, d0, hv⟩ := own_slice h.2.2.2
  subst hv
  clear h
  obtain ⟨n, hn⟩ : ∃ n, P.length = n := ⟨_, rfl⟩
  rw [hn] at hL H1
  have HN := Lib.hid hn
  have H := Lib.hid H1
  have m0 : w1.cell? ⟨g, 1, none⟩ = some (.slice q0 n d0) := H1.2.1.cell 1
  have hL' : (n : Int) ≤ 1000000 := by omega
  have FK := Lib.hid (fun k y (hh : ∀ y ∈ P.take k, Pd.id y ≠ m) (hy : P[k]? = some y) (he : y.id = m) => find_at hh hy he)
  have FN := Lib.hid (fun k y (hh : ∀ y ∈ P.take k, Pd.id y ≠ m) (hy : P[k]? = some y) (he : y.id ≠ m) => not_next hh hy he)
  have FE := Lib.hid (fun (hh : ∀ y ∈ P.take n, Pd.id y ≠ m) => (find_none.2 (by rw [List.take_of_length_le (Nat.le_of_eq hn)] at hh; exact hh) : findK Pd.id m P = none))
  clear hn H1
  have r0 : w1.cell? ⟨w.heap.size, 0, none⟩ = some (.int .i64 0) := X1.out.cell 0
  have g0 := X1.out.frozen 0
  have r1 : w1.cell? ⟨w.heap.size, 1, none⟩ = some (.int .i64 0) := X1.out.cell 1
  have g1 := X1.out.frozen 1
  have r2 : w1.cell? ⟨w.heap.size, 2, none⟩ = some (.int .i64 0) := X1.out.cell 2
  have g2 := X1.out.frozen 2
  go_enter Tryz.func65, Tryz.ntmps65
  go_wp2
  clear hw1
  go_loop [6] (fun i => ∃ k : Nat, k ≤ n ∧ i = .int .i64 k ∧ Hid (∀ y ∈ P.take k, Pd.id y ≠ m)) (fun i => n - (RowKit.intOf i).toNat)
  case atStart => exact ⟨0, Nat.zero_le _, rfl, Lib.hid (by simp)⟩
  case round =>
    obtain ⟨k, hk, rfl, HH⟩ := hrel
    by_cases hlt : k < n
    · have hk3 : (k : Int) < (n : Int) := by omega
      obtain ⟨y, hy⟩ : ∃ y, P[k]? = some y := ⟨_, List.getElem?_eq_getElem (by rw [HN.out]; exact hlt)⟩
      obtain ⟨blk, cc, e, hb1, hb2, hncc⟩ := own_some H.out.2.2.2 (by rw [HN.out]; omega)
      rw [HN.out] at e
      have FE1 := Lib.hid (fun i (hi : i < 3) => by
        have o2 := H.out.2.2.2
        rw [e, HN.out] at o2
        exact row_cell pcells_len o2 HN.out hy hi)
      cases e
      have HK := Lib.hid (fun he => FK.out k y HH.out hy he)
      have HX := Lib.hid (fun he => FN.out k y HH.out hy he)
      clear hy hb1 hb2
      obtain ⟨ka2, kb2, kc2⟩ := y
      simp only at HK HX
      have e0 : w1.cell? ⟨blk, k * 3, none⟩ = some (.int .i64 ka2) := FE1.out 0 (by decide)
      have e1 : w1.cell? ⟨blk, k * 3 + 1, none⟩ = some (.int .i64 kb2) := FE1.out 1 (by decide)
      have e2 : w1.cell? ⟨blk, k * 3 + 2, none⟩ = some (.int .i64 kc2) := FE1.out 2 (by decide)
      by_cases ha : ka2 = m
      · subst ha
        have HE := Lib.hid (HK.out rfl)
        clear HK HX
        go_wp2
        refine bodyPost_ret (v := .tuple #[pval ⟨ka2, kb2, kc2⟩, .int .i64 0]) (by simp [results, Tryz.results65, go_sem, pval, r0, r1, r2]) rfl ⟨by rw [HE.out]; rfl, ?_⟩
        iterate 3 refine Below.setCell ?_ (show w.heap.size ≤ _ from Nat.le_refl _) _
        exact B1.out
      · have ha2 : (ka2 == m) = false := by simp [ha]
        have HH2 := Lib.hid (HX.out ha)
        clear HK HX ha
        go_wp2
        go_round
        case rel => exact ⟨k + 1, by omega, by go_num, HH2⟩
        case measure => simp [RowKit.intOf]; omega
    · obtain rfl : k = n := by omega
      have HE := Lib.hid (FE.out HH.out)
      go_wp2
      refine bodyPost_ret (v := .tuple #[pval pd0, .int .i64 5]) (by simp [results, Tryz.results65, go_sem, pval, pd0, r0, r1, r2]) rfl ⟨by rw [HE.out]; rfl, ?_⟩
      iterate 3 refine Below.setCell ?_ (show w.heap.size ≤ _ from Nat.le_refl _) _
      exact B1.out
theorem takesP {l l2 : List Pd} {k : Nat} {x : Pd} (h : l.take k = l2.take k) (hx : l[k]? = some x) (hy : l2[k]? = some x) : l.take (k + 1) = l2.take (k + 1) := by
  rw [List.take_add_one, List.take_add_one, h, hx, hy]
theorem notsP {l l2 : List Pd} {k : Nat} {x y : Pd} (hx : l[k]? = some x) (hy : l2[k]? = some y) (h : x ≠ y) : decide (l = l2) = false := by
  rw [decide_eq_false_iff_not]
  rintro rfl
  rw [hx] at hy
  exact h (Option.some.inj hy)
end Ms
end Go.Proofs.YtkfmkchonlajpaaGreat

namespace Go.Proofs.YtkfmkchonlajpaaGreat
open Go.RowKit

namespace Lo
theorem infoL : (Tryz.prog.info? 50).map (fun i => (i.zero, i.size, i.bytes)) = some (some (.agg #[.int .i64 0, .int .i64 0, .int .i64 0, .int .i64 0, .int .i64 0, .int .i64 0, .int .i64 0, .slice none 0 0]), 8, 80) := by kernel_rfl
/-- What an act leaves of the document's stock. -/
def RAct (w : World) (B g : Nat) (v : Value) (K : Nat → Prop) (s : Stk) (w' : World) : Prop := ∃ l', lts l' = s.1 ∧ RDone w B g v K s.2 l' w'
theorem ract_same {w w' : World} {B g : Nat} {v : Value} {given : Int} {l : List Lv} (h : RS w B g v given l) (hb : Below w.heap.size w w') : RAct w B g v (Bks l) (lts l, given) w' := ⟨l, rfl, rdone_same h hb⟩
theorem recv_bad {Z : List Ms.Zn} {P : List Ms.Pd} {s : Stk} {product zone units expiry now : Int} (h : recvOk units expiry now = false) : recvS Z P s product zone units expiry now = ((0, 1), s) := by
  unfold recvS
  rw [if_pos h]
theorem recv_none {Z : List Ms.Zn} {P : List Ms.Pd} {s : Stk} {product zone units expiry now : Int} (h : recvOk units expiry now = true) (hn : Ms.findK Ms.Pd.id product P = none ∨ Ms.findK Ms.Zn.id zone Z = none) : recvS Z P s product zone units expiry now = ((0, 5), s) := by
  unfold recvS
  rw [if_neg (by rw [h]; decide)]
  rcases hn with hn | hn
  · rw [hn]
  · rw [hn]
    cases Ms.findK Ms.Pd.id product P <;> rfl
theorem recv_some {Z : List Ms.Zn} {P : List Ms.Pd} {s : Stk} {product zone units expiry now : Int} (h : recvOk units expiry now = true) {p : Ms.Pd} {z : Ms.Zn} (hp : Ms.findK Ms.Pd.id product P = some p) (hz : Ms.findK Ms.Zn.id zone Z = some z) :
    recvS Z P s product zone units expiry now = if 256 ≤ s.2 ∨ z.room < loadL s.1 zone + units then ((0, 4), s) else ((s.2 + 1, 0), (s.1 ++ [⟨s.2 + 1, product, units, expiry, 0, 0, 0, [⟨zone, now, -1⟩]⟩], s.2 + 1)) := by
  unfold recvS
  rw [if_neg (by rw [h]; decide), hp, hz]
set_option maxRecDepth 100000 in
set_option maxHeartbeats 8000000 in
theorem rrecv_bad (B g gm : Nat) (v : Value) (given : Int) (l : List Lv) (product zone units expiry now : Int) (w : World) (h : RS w B g v given l) (hb : recvOk units expiry now = false) :
    Calls Tryz.prog 34 #[.pointer (some ⟨g, 0, none⟩), .pointer (some ⟨gm, 0, none⟩), .int .i64 product, .int .i64 zone, .int .i64 units, .int .i64 expiry, .int .i64 now] w fun e w' => e = .returned (.tuple #[.int .i64 0, .int .i64 1]) ∧ RAct w B g v (Bks l) (lts l, given) w' := by
  have HE := Lib.hid (ract_same h (Below.refl _ _))
  have c : units < 1 ∨ (1 ≤ units ∧ 1048576 < units) ∨ (1 ≤ units ∧ units ≤ 1048576 ∧ expiry < 0) ∨ (1 ≤ units ∧ units ≤ 1048576 ∧ 0 ≤ expiry ∧ 1048575 < expiry) ∨ (1 ≤ units ∧ units ≤ 1048576 ∧ 0 ≤ expiry ∧ expiry ≤ 1048575 ∧ now < 0) ∨ (1 ≤ units ∧ units ≤ 1048576 ∧ 0 ≤ expiry ∧ expiry ≤ 1048575 ∧ 0 ≤ now ∧ 1048575 < now) := by
    cases hk : recvOk units expiry now
    · simp only [recvOk, Bool.and_eq_false_iff, decide_eq_false_iff_not] at hk
      omega
    · rw [hk] at hb
      cases hb
  clear hb h
  rcases c with h1 | ⟨h1, h2⟩ | ⟨h1, h2, h3⟩ | ⟨h1, h2, h3, h4⟩ | ⟨h1, h2, h3, h4, h5⟩ | ⟨h1, h2, h3, h4, h5, h6⟩
  all_goals
    go_enter Tryz.func34, Tryz.ntmps34
    go_wp2
    go_ret2
    exact ⟨rfl, HE.out⟩
/-- The masters of the document's stock. -/
theorem RM_keep2 {w w' : World} {Bm gm : Nat} {vz vp : Value} {Z : List Ms.Zn} {P : List Ms.Pd} (h : Ms.RM w Bm gm vz vp Z P) (hb : Below w.heap.size w w') : Ms.RM w' Bm gm vz vp Z P := h.keep hb
theorem ok_parts {units expiry now : Int} (h : recvOk units expiry now = true) : 1 ≤ units ∧ units ≤ 1048576 ∧ 0 ≤ expiry ∧ expiry ≤ 1048575 ∧ 0 ≤ now ∧ now ≤ 1048575 := by
  simpa [recvOk] using h
set_option maxRecDepth 100000 in
set_option maxHeartbeats 16000000 in
theorem rrecv_none (B g Bm gm : Nat) (v vz vp : Value) (given : Int) (l : List Lv) (Z : List Ms.Zn) (P : List Ms.Pd) (product zone units expiry now : Int) (w : World) (h : RS w B g v given l) (hM : Ms.RM w Bm gm vz vp Z P) (hZ : Z.length ≤ 1000000) (hP : P.length ≤ 1000000) (hok : recvOk units expiry now = true)
    (hn : Ms.findK Ms.Pd.id product P = none ∨ Ms.findK Ms.Zn.id zone Z = none) :
    Calls Tryz.prog 34 #[.pointer (some ⟨g, 0, none⟩), .pointer (some ⟨gm, 0, none⟩), .int .i64 product, .int .i64 zone, .int .i64 units, .int .i64 expiry, .int .i64 now] w fun e w' => e = .returned (.tuple #[.int .i64 0, .int .i64 5]) ∧ RAct w B g v (Bks l) (lts l, given) w' := by
  obtain ⟨h1, h2, h3, h4, h5, h6⟩ := ok_parts hok
  have HE := Lib.hid (fun W (hW : Below w.heap.size w W) => ract_same h hW)
  have CP := Lib.hid (fun W (hW : Below w.heap.size w W) => Ms.rrowP_any Bm gm vz vp Z P product W (hM.keep hW) hP)
  have CZ := Lib.hid (fun W (hW : Below w.heap.size w W) => Ms.rrowZ_any Bm gm vz vp Z P zone W (hM.keep hW) hZ)
  have hn2 : (Ms.getK (Ms.findK Ms.Pd.id product P) Ms.pd0).2 = 5 ∨ (Ms.getK (Ms.findK Ms.Pd.id product P) Ms.pd0).2 = 0 ∧ (Ms.getK (Ms.findK Ms.Zn.id zone Z) Ms.zn0).2 = 5 := by
    rcases hn with hn | hn
    · rw [hn]
      exact .inl rfl
    · rw [hn]
      cases Ms.findK Ms.Pd.id product P
      · exact .inl rfl
      · exact .inr ⟨rfl, rfl⟩
  generalize Ms.getK (Ms.findK Ms.Pd.id product P) Ms.pd0 = gp at *
  generalize Ms.getK (Ms.findK Ms.Zn.id zone Z) Ms.zn0 = gz at *
  obtain ⟨⟨pa, pb, pc⟩, ep⟩ := gp
  obtain ⟨⟨za, zb, zc, zd, ze, zf⟩, ez⟩ := gz
  unfold Ms.zval Ms.pval at *
  simp only at CP CZ hn2
  clear h hM hok hn
  rcases hn2 with rfl | ⟨rfl, rfl⟩
  all_goals
    go_enter Tryz.func34, Tryz.ntmps34
    go_wp2_with fail
    refine (CP.out _ (Below.refl _ _)).mono ?_
    rintro e w1 ⟨rfl, hb⟩
    have B1 := Lib.hid (hb.alloc hb.size (.cells #[.int .i64 pa, .int .i64 pb, .int .i64 pc] 64))
    clear hb
    go_wp2_with fail
    refine (CZ.out _ B1.out).mono ?_
    rintro e w2 ⟨rfl, hb⟩
    have B2 := Lib.hid ((B1.out.trans (hb.mono B1.out.size)).alloc (Nat.le_trans B1.out.size hb.size) (.cells #[.int .i64 za, .int .i64 zb, .int .i64 zc, .int .i64 zd, .bool ze, .int .i64 zf] 61))
    clear hb B1
    go_wp2
    go_ret2
    exact ⟨rfl, HE.out _ B2.out⟩

set_option maxRecDepth 100000 in
set_option maxHeartbeats 16000000 in
/-- No room. -/
theorem rrecv_full (B g Bm gm : Nat) (v vz vp : Value) (given : Int) (l : List Lv) (Z : List Ms.Zn) (P : List Ms.Pd) (product zone units expiry now : Int) (w : World) (h : RS w B g v given l) (hG : Good (lts l, given)) (hM : Ms.RM w Bm gm vz vp Z P) (hZ : Z.length ≤ 1000000) (hP : P.length ≤ 1000000) (hok : recvOk units expiry now = true)
    (pd : Ms.Pd) (zn : Ms.Zn) (hp : Ms.findK Ms.Pd.id product P = some pd) (hz : Ms.findK Ms.Zn.id zone Z = some zn) (hf : 256 ≤ given ∨ zn.room < loadL (lts l) zone + units) :
    Calls Tryz.prog 34 #[.pointer (some ⟨g, 0, none⟩), .pointer (some ⟨gm, 0, none⟩), .int .i64 product, .int .i64 zone, .int .i64 units, .int .i64 expiry, .int .i64 now] w fun e w' => e = .returned (.tuple #[.int .i64 0, .int .i64 4]) ∧ RAct w B g v (Bks l) (lts l, given) w' := by
  obtain ⟨h1, h2, h3, h4, h5, h6⟩ := ok_parts hok
  have HE := Lib.hid (fun W (hW : Below w.heap.size w W) => ract_same h hW)
  have CP := Lib.hid (fun W (hW : Below w.heap.size w W) => Ms.rrowP_any Bm gm vz vp Z P product W (hM.keep hW) hP)
  have CZ := Lib.hid (fun W (hW : Below w.heap.size w W) => Ms.rrowZ_any Bm gm vz vp Z P zone W (hM.keep hW) hZ)
  have CL := Lib.hid (fun W (hW : Below w.heap.size w W) => rload_any B g v given l zone W (h.keep hW) hG)
  have hld := good_load hG zone
  have FG := Lib.hid (fun W (hW : Below w.heap.size w W) => (h.keep hW).blk)
  rw [hp] at CP
  rw [hz] at CZ
  obtain ⟨pa, pb, pc⟩ := pd
  obtain ⟨za, zb, zc, zd, ze, zf⟩ := zn
  unfold Ms.zval Ms.pval at *
  simp only [Ms.getK] at CP CZ hf hld
  generalize loadL (lts l) zone = ld at *
  obtain ⟨hl0, hl1⟩ := hld
  clear h hM hok hp hz hG
  have hcase : (256 ≤ given) ∨ (given < 256 ∧ zd < ld + units) := by omega
  clear hf
  go_enter Tryz.func34, Tryz.ntmps34
  go_wp2_with fail
  refine (CP.out _ (Below.refl _ _)).mono ?_
  rintro e w1 ⟨rfl, hb⟩
  have B1 := Lib.hid (hb.alloc hb.size (.cells #[.int .i64 pa, .int .i64 pb, .int .i64 pc] 64))
  clear hb
  go_wp2_with fail
  refine (CZ.out _ B1.out).mono ?_
  rintro e w2 ⟨rfl, hb⟩
  have B2 := Lib.hid ((B1.out.trans (hb.mono B1.out.size)).alloc (Nat.le_trans B1.out.size hb.size) (.cells #[.int .i64 za, .int .i64 zb, .int .i64 zc, .int .i64 zd, .bool ze, .int .i64 zf] 61))
  have X2 := Lib.hid (Lies.new w2 61 #[.int .i64 za, .int .i64 zb, .int .i64 zc, .int .i64 zd, .bool ze, .int .i64 zf])
  clear hb B1
  go_wp2_with fail
  refine (CL.out _ B2.out).mono ?_
  rintro e w3 ⟨rfl, hb⟩
  have B3 := Lib.hid (B2.out.trans (hb.mono B2.out.size))
  have X3 := Lib.hid (X2.out.below hb X2.out.lt)
  have z3 : w3.cell? ⟨w2.heap.size, 3, none⟩ = some (.int .i64 zd) := X3.out.cell 3
  have m1 : w3.cell? ⟨g, 1, none⟩ = some (.int .i64 given) := (FG.out w3 B3.out).cell 1
  clear hb B2 X2
  rcases hcase with hc | ⟨hc, hd⟩
  all_goals
    go_wp2
    go_ret2
    exact ⟨rfl, HE.out _ B3.out⟩
theorem RS.made {W : World} {B g : Nat} {v : Value} {given : Int} {l : List Lv} (h : RS W B g v given l) {u : Int} : RS (W.setCell ⟨g, 1, none⟩ (.int .i64 u)) B g v u l := by
  have hT : Turn (fun k => k = g) W (W.setCell ⟨g, 1, none⟩ (.int .i64 u)) := (Turn.refl (fun k => k = g) W).setCell (p := ⟨g, 1, none⟩) (.inl rfl) _
  exact ⟨h.base, by simpa using h.blk.set_ 1 (.int .i64 u), own_turn h.row hT (fun k hk e => own_blk_ne h.row h.blk (by decide) (by rw [hk, e])), fun y hy => (h.stays y hy).turn hT (fun k hk e => (h.apart y hy k hk).1 e), h.apart⟩
/-- One more lot, behind the others; its stays lie at a place of their own. -/
theorem rs_app {w wr w2 : World} {B g gg cap : Nat} {v : Value} {given : Int} {l : List Lv} {y : Lv} {ob1 ob2 : Obj} (hb : Turn (RFoot g v) w wr) (h : RS wr B g v given l)
    (hown : w2.ownsRow B 50 8 (.slice (some ⟨gg, 0, none⟩) (l.length + 1) cap) (l.length + 1) (l.flatMap lcells ++ lcells y))
    (hg : ((wr.alloc ob1).alloc ob2).drew.grownBy w2 v.ownBlock) (hat : v.ownBlock = some gg ∨ gg = wr.heap.size + 2)
    (fb : Lies w2 g 37 #[v, .int .i64 given]) (hy : St w2 y) (hyk : ∀ k, Bk y k → k ≠ g ∧ gg ≠ k) {K : Nat → Prop} (hK : ∀ k, Bks l k → K k) (hyK : ∀ k, Bk y k → K k ∨ w.heap.size ≤ k) :
    RDone w B g v K given (l ++ [y]) (w2.setCell ⟨g, 0, none⟩ (.slice (some ⟨gg, 0, none⟩) (l.length + 1) cap)) := by
  have T1 : Turn (fun k => v.ownBlock = some k) wr w2 := ((((Turn.refl _ wr).alloc ob1).alloc ob2).drew).grown hg (fun k hk => .inl hk)
  have hne : gg ≠ g := fun e => own_blk_ne hown fb (by decide) (by rw [e]; rfl)
  have T2 : Turn (fun k => k = g) w2 (w2.setCell ⟨g, 0, none⟩ (.slice (some ⟨gg, 0, none⟩) (l.length + 1) cap)) := (Turn.refl (fun k => k = g) w2).setCell (p := ⟨g, 0, none⟩) (.inl rfl) _
  have hs := hb.size
  have hapn : ∀ z ∈ l, ∀ k, Bk z k → gg ≠ k := fun z hz k hk e => by
    rcases hat with hat | hat
    · exact (h.apart z hz k hk).2 (by rw [hat, e])
    · have := (h.stays z hz).lt hk
      omega
  refine ⟨.slice (some ⟨gg, 0, none⟩) (l.length + 1) cap, ⟨h.base, ?_, ?_, fun z hz => ?_, fun z hz k hk => ?_⟩, ?_, fun k hk => ?_, fun k hk => ?_⟩
  · simpa using fb.set_ 0 (.slice (some ⟨gg, 0, none⟩) (l.length + 1) cap)
  · rw [List.length_append, ← flat_snoc]
    exact own_turn hown T2 (fun k hk e => by
      subst e
      exact hne (by simpa [Value.ownBlock] using hk))
  · rcases List.mem_append.1 hz with hz | hz
    · exact ((h.stays z hz).turn T1 (fun k hk e => (h.apart z hz k hk).2 e)).turn T2 (fun k hk e => (h.apart z hz k hk).1 e)
    · rw [List.mem_singleton.1 hz]
      exact hy.turn T2 (fun k hk e => (hyk k hk).1 e)
  · rcases List.mem_append.1 hz with hz | hz
    · refine ⟨(h.apart z hz k hk).1, fun e => hapn z hz k hk ?_⟩
      simpa [Value.ownBlock] using e
    · rw [List.mem_singleton.1 hz] at hk
      refine ⟨(hyk k hk).1, fun e => (hyk k hk).2 ?_⟩
      simpa [Value.ownBlock] using e
  · refine (hb.trans (T1.mono (fun i _ hi => .inr hi)) (fun i hi => .inl hi)).trans (S' := fun k => k = g) T2 (fun i hi => .inl (.inl hi))
  · have e : gg = k := by simpa [Value.ownBlock] using hk
    subst e
    rcases hat with hat | hat
    · exact .inl hat
    · exact .inr (by omega)
  · rcases bks_app hk with hk | hk
    · exact .inl (hK k hk)
    · exact hyK k hk
end Lo
end Go.Proofs.YtkfmkchonlajpaaGreat

namespace Go.Proofs.YtkfmkchonlajpaaGreat
open Go.RowKit

namespace Lo
theorem recv_end {w wr w2 : World} {B g gg cap : Nat} {v : Value} {u product zone units expiry now : Int} {l : List Lv} (hb : Turn (RFoot g v) w wr) (h : RS wr B g v u l)
    (hown : w2.ownsRow B 50 8 (.slice (some ⟨gg, 0, none⟩) (l.length + 1) cap) (l.length + 1) (l.flatMap lcells ++ [.int .i64 u, .int .i64 product, .int .i64 units, .int .i64 expiry, .int .i64 0, .int .i64 0, .int .i64 0, .slice (some ⟨wr.heap.size, 0, none⟩) 1 1]))
    (hg : ((wr.alloc (.cells #[.int .i64 zone, .int .i64 now, .int .i64 (-1)] 71)).alloc (.cells #[.int .i64 u, .int .i64 product, .int .i64 units, .int .i64 expiry, .int .i64 0, .int .i64 0, .int .i64 0, .slice (some ⟨wr.heap.size, 0, none⟩) 1 1] 50)).drew.grownBy w2 v.ownBlock) (hat : v.ownBlock = some gg ∨ gg = wr.heap.size + 2)
    (fb : Lies w2 g 37 #[v, .int .i64 u]) :
    RAct w B g v (Bks l) (lts l ++ [⟨u, product, units, expiry, 0, 0, 0, [⟨zone, now, -1⟩]⟩], u) (w2.setCell ⟨g, 0, none⟩ (.slice (some ⟨gg, 0, none⟩) (l.length + 1) cap)) := by
  have hbk : ∀ k, Bk ⟨⟨u, product, units, expiry, 0, 0, 0, [⟨zone, now, -1⟩]⟩, some ⟨wr.heap.size, 0, none⟩, 1, 1⟩ k → k = wr.heap.size := by
    rintro k ⟨_, a, ha, rfl⟩
    rw [← Option.some.inj ha]
  have hst : Lies w2 wr.heap.size 71 #[.int .i64 zone, .int .i64 now, .int .i64 (-1)] := by
    refine ((((Lies.new wr 71 #[.int .i64 zone, .int .i64 now, .int .i64 (-1)]).alloc (.cells #[.int .i64 u, .int .i64 product, .int .i64 units, .int .i64 expiry, .int .i64 0, .int .i64 0, .int .i64 0, .slice (some ⟨wr.heap.size, 0, none⟩) 1 1] 50)).drewN 1).grown (w' := w2) hg (fun e => ?_))
    have := (own_lt h.row e.symm).2
    omega
  refine ⟨l ++ [⟨⟨u, product, units, expiry, 0, 0, 0, [⟨zone, now, -1⟩]⟩, some ⟨wr.heap.size, 0, none⟩, 1, 1⟩], by simp [lts], ?_⟩
  refine rs_app hb h hown hg hat fb ⟨⟨rfl, fun _ => ⟨wr.heap.size, 0, rfl, fun j x hx i hi => ?_⟩⟩, Nat.le_refl _⟩ (fun k hk => ?_) (fun k hk => hk) (fun k hk => .inr (by rw [hbk k hk]; exact hb.size))
  · have hj : j = 0 := by
      have := (List.getElem?_eq_some_iff.1 hx).1
      simp at this
      exact this
    subst hj
    simp at hx
    subst hx
    rw [Nat.zero_mul, Nat.zero_add, hst.cell]
    match i, hi with
    | 0, _ => rfl
    | 1, _ => rfl
    | 2, _ => rfl
  · rw [hbk k hk]
    have h1 := h.blk.lt
    refine ⟨by omega, fun e => ?_⟩
    rcases hat with hat | hat
    · have := (own_lt h.row hat).2
      omega
    · omega
set_option maxRecDepth 100000 in
set_option maxHeartbeats 16000000 in
theorem rrecv_ok (B g Bm gm : Nat) (v vz vp : Value) (given : Int) (l : List Lv) (Z : List Ms.Zn) (P : List Ms.Pd) (product zone units expiry now : Int) (w : World) (h : RS w B g v given l) (hG : Good (lts l, given)) (hM : Ms.RM w Bm gm vz vp Z P) (hZ : Z.length ≤ 1000000) (hP : P.length ≤ 1000000) (hok : recvOk units expiry now = true)
    (pd : Ms.Pd) (zn : Ms.Zn) (hp : Ms.findK Ms.Pd.id product P = some pd) (hz : Ms.findK Ms.Zn.id zone Z = some zn) (hf : ¬ (256 ≤ given ∨ zn.room < loadL (lts l) zone + units)) :
    Calls Tryz.prog 34 #[.pointer (some ⟨g, 0, none⟩), .pointer (some ⟨gm, 0, none⟩), .int .i64 product, .int .i64 zone, .int .i64 units, .int .i64 expiry, .int .i64 now] w fun e w' =>
      e = .returned (.tuple #[.int .i64 (given + 1), .int .i64 0]) ∧ RAct w B g v (Bks l) (lts l ++ [⟨given + 1, product, units, expiry, 0, 0, 0, [⟨zone, now, -1⟩]⟩], given + 1) w' := by
  obtain ⟨i0, hi, hz0, hz1, hz2⟩ := info_parts infoL
  obtain ⟨h1, h2, h3, h4, h5, h6⟩ := ok_parts hok
  have HH := Lib.hid (fun W (hW : Below w.heap.size w W) => h.keep hW)
  have CP := Lib.hid (fun W (hW : Below w.heap.size w W) => Ms.rrowP_any Bm gm vz vp Z P product W (hM.keep hW) hP)
  have CZ := Lib.hid (fun W (hW : Below w.heap.size w W) => Ms.rrowZ_any Bm gm vz vp Z P zone W (hM.keep hW) hZ)
  have CL := Lib.hid (fun W (hW : Below w.heap.size w W) => rload_any B g v given l zone W (h.keep hW) hG)
  have hld := good_load hG zone
  have hg0 := hG.given.1
  have hll := good_len hG
  have hll2 : l.length ≤ 256 := by simpa [lts] using hll
  have HB := Lib.hid h.base
  rw [hp] at CP
  rw [hz] at CZ
  obtain ⟨pa, pb, pc⟩ := pd
  obtain ⟨za, zb, zc, zd, ze, zf⟩ := zn
  unfold Ms.zval Ms.pval at *
  simp only [Ms.getK] at CP CZ hf hld hg0
  generalize loadL (lts l) zone = ld at *
  obtain ⟨hl0, hl1⟩ := hld
  clear h hM hok hp hz hG hll
  have hc1 : ¬ (256 : Int) ≤ given := fun e => hf (.inl e)
  have hc2 : ¬ zd < ld + units := fun e => hf (.inr e)
  have hc3 : given < 256 := by omega
  clear hf
  go_enter Tryz.func34, Tryz.ntmps34
  go_wp2_with fail
  refine (CP.out _ (Below.refl _ _)).mono ?_
  rintro e w1 ⟨rfl, hb⟩
  have B1 := Lib.hid (hb.alloc hb.size (.cells #[.int .i64 pa, .int .i64 pb, .int .i64 pc] 64))
  clear hb
  go_wp2_with fail
  refine (CZ.out _ B1.out).mono ?_
  rintro e w2 ⟨rfl, hb⟩
  have B2 := Lib.hid ((B1.out.trans (hb.mono B1.out.size)).alloc (Nat.le_trans B1.out.size hb.size) (.cells #[.int .i64 za, .int .i64 zb, .int .i64 zc, .int .i64 zd, .bool ze, .int .i64 zf] 61))
  have X2 := Lib.hid (Lies.new w2 61 #[.int .i64 za, .int .i64 zb, .int .i64 zc, .int .i64 zd, .bool ze, .int .i64 zf])
  clear hb B1
  go_wp2_with fail
  refine (CL.out _ B2.out).mono ?_
  rintro e w3 ⟨rfl, hb⟩
  have B3 := Lib.hid (B2.out.trans (hb.mono B2.out.size))
  have X3 := Lib.hid (X2.out.below hb X2.out.lt)
  have z3 : w3.cell? ⟨w2.heap.size, 3, none⟩ = some (.int .i64 zd) := X3.out.cell 3
  have H3 := HH.out w3 B3.out
  have m1 : w3.cell? ⟨g, 1, none⟩ = some (.int .i64 given) := H3.blk.cell 1
  have f1 : w3.frozen? ⟨g, 1, none⟩ = false := H3.blk.frozen 1
  have T4 := Lib.hid ((Turn.of_below (S := RFoot g v) B3.out).setCell (p := ⟨g, 1, none⟩) (.inl (.inl rfl)) (.int .i64 (given + 1)))
  have H4 := H3.made (u := given + 1)
  clear hb B2 X2 H3
  go_upto_region 11 with fail
  obtain ⟨w4, hw4⟩ : ∃ w4, w3.setCell ⟨g, 1, none⟩ (.int .i64 (given + 1)) = w4 := ⟨_, rfl⟩
  rw [hw4] at T4 H4 ⊢
  clear hw4 z3 m1 f1 X3 B3 HH CP CZ CL
  obtain ⟨q, d, rfl⟩ := rs_slice H4
  have HQ := Lib.hid H4
  have ho := H4.row
  have hbb := H4.blk
  have hs4 : B ≤ w4.heap.size := Nat.le_trans H4.base (Nat.le_of_lt H4.blk.lt)
  have n0 : w4.cell? ⟨g, 0, none⟩ = some (.slice q l.length d) := hbb.cell 0
  have n1 : w4.cell? ⟨g, 1, none⟩ = some (.int .i64 (given + 1)) := hbb.cell 1
  have ne : (Value.slice q l.length d).ownBlock ≠ some g := own_blk_ne ho hbb (by decide)
  have lg := hbb.lt
  clear H4
  go_region_law
    ((refine step_append_lies _ (by rfl) _ _ _ (by rfl) B 50 i0 _ 8 80 Tryz.underlying35 hi hz0 hz1 hz2 rfl (by omega) (.slice q l.length d) l.length (l.flatMap lcells) (by rfl) (((ho.alloc _).alloc _).drew)
        ⟨w4.heap.size + 1, 0, none⟩ 1 1 [.int .i64 (given + 1), .int .i64 product, .int .i64 units, .int .i64 expiry, .int .i64 0, .int .i64 0, .int .i64 0, .slice (some ⟨w4.heap.size, 0, none⟩) 1 1] (by rfl) (by rfl) (by have hh := World.news_of_block (cs := #[.int .i64 (given + 1), .int .i64 product, .int .i64 units, .int .i64 expiry, .int .i64 0, .int .i64 0, .int .i64 0, .slice (some ⟨w4.heap.size, 0, none⟩) 1 1]) (t := 50) (fr := (0, 0)) (heap_alloc_new (w4.alloc (.cells #[.int .i64 zone, .int .i64 now, .int .i64 (-1)] 71)) _); simpa using hh) (by simp [Value.oneCell'])
        (by omega) (by unfold maxLen; omega) (by omega) (by simp; omega) (w4.heap.size + 2) (by simp) ?_; intro gg cap w5 hown1 hgrow hat hlt; have fb := (((hbb.alloc (.cells #[.int .i64 zone, .int .i64 now, .int .i64 (-1)] 71)).alloc (.cells #[.int .i64 (given + 1), .int .i64 product, .int .i64 units, .int .i64 expiry, .int .i64 0, .int .i64 0, .int .i64 0, .slice (some ⟨w4.heap.size, 0, none⟩) 1 1] 50)).drewN 1).grown (w' := w5) hgrow (Ne.symm ne); have f2 := fb.frozen 0; have c2 : w5.cell? ⟨g, 0, none⟩ = some (.slice q l.length d) := fb.cell 0))
  all_goals
    have c1 : w5.cell? ⟨g, 1, none⟩ = some (.int .i64 (given + 1)) := fb.cell 1
    have HE := Lib.hid (recv_end (product := product) (units := units) (expiry := expiry) T4.out HQ.out hown1 hgrow hat fb)
    clear hown1 hgrow hat hlt fb
    go_wp2
    go_ret2
    exact ⟨rfl, HE.out⟩
/-- Receive, whole. -/
theorem rrecv_any (B g Bm gm : Nat) (v vz vp : Value) (given : Int) (l : List Lv) (Z : List Ms.Zn) (P : List Ms.Pd) (product zone units expiry now : Int) (w : World) (h : RS w B g v given l) (hG : Good (lts l, given)) (hM : Ms.RM w Bm gm vz vp Z P) (hZ : Z.length ≤ 1000000) (hP : P.length ≤ 1000000) :
    Calls Tryz.prog 34 #[.pointer (some ⟨g, 0, none⟩), .pointer (some ⟨gm, 0, none⟩), .int .i64 product, .int .i64 zone, .int .i64 units, .int .i64 expiry, .int .i64 now] w fun e w' =>
      e = .returned (.tuple #[.int .i64 (recvS Z P (lts l, given) product zone units expiry now).1.1, .int .i64 ((recvS Z P (lts l, given) product zone units expiry now).1.2 : Nat)]) ∧ RAct w B g v (Bks l) (recvS Z P (lts l, given) product zone units expiry now).2 w' := by
  by_cases hok : recvOk units expiry now = true
  case neg =>
    have hb : recvOk units expiry now = false := by simpa using hok
    rw [recv_bad hb]
    exact rrecv_bad B g gm v given l product zone units expiry now w h hb
  cases hp : Ms.findK Ms.Pd.id product P with
  | none =>
    rw [recv_none hok (.inl hp)]
    exact rrecv_none B g Bm gm v vz vp given l Z P product zone units expiry now w h hM hZ hP hok (.inl hp)
  | some pd =>
    cases hz : Ms.findK Ms.Zn.id zone Z with
    | none =>
      rw [recv_none hok (.inr hz)]
      exact rrecv_none B g Bm gm v vz vp given l Z P product zone units expiry now w h hM hZ hP hok (.inr hz)
    | some zn =>
      rw [recv_some hok hp hz]
      by_cases hf : 256 ≤ given ∨ zn.room < loadL (lts l) zone + units
      · rw [if_pos hf]
        exact rrecv_full B g Bm gm v vz vp given l Z P product zone units expiry now w h hG hM hZ hP hok pd zn hp hz hf
      · rw [if_neg hf]
        exact rrecv_ok B g Bm gm v vz vp given l Z P product zone units expiry now w h hG hM hZ hP hok pd zn hp hz hf
end Lo
end Go.Proofs.YtkfmkchonlajpaaGreat

namespace Go.Proofs.YtkfmkchonlajpaaGreat
open Go.RowKit

namespace Lo
/-- The blocks of the document's master; of its stock, stays too. -/
def MF (gm : Nat) (vz vp : Value) (k : Nat) : Prop := k = gm ∨ vz.ownBlock = some k ∨ vp.ownBlock = some k
def SF (g : Nat) (v : Value) (l : List Lv) (k : Nat) : Prop := RFoot g v k ∨ Bks l k
theorem mf_lt {W : World} {Bm gm : Nat} {vz vp : Value} {Z : List Ms.Zn} {P : List Ms.Pd} (h : Ms.RM W Bm gm vz vp Z P) {k : Nat} (hk : MF gm vz vp k) : k < W.heap.size := by
  rcases hk with rfl | hk | hk
  · exact h.2.1.lt
  · exact (own_lt h.2.2.1 hk).2
  · exact (own_lt h.2.2.2 hk).2
theorem sf_lt {W : World} {B g : Nat} {v : Value} {u : Int} {l : List Lv} (h : RS W B g v u l) {k : Nat} (hk : SF g v l k) : k < W.heap.size := by
  rcases hk with hk | ⟨y, hy, hk⟩
  · exact (h.foot hk).2
  · exact (h.stays y hy).lt hk
structure FourAt {M : Ms.Face} (I : Face M) (X : Nat → Prop) (base bs bm : Nat) (w W : World) (h hm g gm Bg Bm : Nat) (F Fm : Nat → Prop) (v vz vp : Value) (l : List Lv) (s s2 : Stk) (m m2 : Nat) (Z : List Ms.Zn) (P : List Ms.Pd) : Prop where
  pk : Pair I base bs bm w W h hm F Fm s m Z P
  rm : Ms.RM W Bm gm vz vp Z P
  rs : RS W Bg g v s2.2 l
  eq : lts l = s2.1
  good2 : GoodM s2 m2
  fa : ∀ k, F k → ¬ MF gm vz vp k ∧ ¬ SF g v l k
  fb : ∀ k, Fm k → ¬ RFoot g v k
  fc : ∀ k, MF gm vz vp k → ¬ RFoot g v k
  low2 : base ≤ Bg
  fx : ∀ k, X k → k < W.heap.size ∧ base ≤ k ∧ ¬ F k ∧ ¬ Fm k ∧ ¬ MF gm vz vp k ∧ ¬ SF g v l k
/-- What lies in these blocks stays. -/
def Still (X : Nat → Prop) (W w' : World) : Prop := ∃ T, Turn T W w' ∧ ∀ k, X k → ¬ T k
theorem Still.lies {X : Nat → Prop} {W w' : World} (h : Still X W w') {k : Nat} {t : TypeId} {cs : Array Value} (hx : X k) (hl : Lies W k t cs) : Lies w' k t cs := by
  obtain ⟨T, ht, hk⟩ := h
  exact hl.turn ht (hk k hx)
/-- Four things, and blocks X that are apart from them. -/
def Four {M : Ms.Face} (I : Face M) (X : Nat → Prop) (base : Nat) (w W : World) (h hm g gm : Nat) (s s2 : Stk) (m m2 : Nat) (Z : List Ms.Zn) (P : List Ms.Pd) : Prop :=
  ∃ bs bm Bg Bm F Fm v vz vp l, FourAt I X base bs bm w W h hm g gm Bg Bm F Fm v vz vp l s s2 m m2 Z P
section
variable {M : Ms.Face} {I : Face M} {X : Nat → Prop} {base : Nat} {w W : World} {h hm g gm : Nat} {s s2 : Stk} {m m2 : Nat} {Z : List Ms.Zn} {P : List Ms.Pd}
theorem four_keep (p : Four I X base w W h hm g gm s s2 m m2 Z P) {w' : World} (hb : Below W.heap.size W w') : Four I X base w w' h hm g gm s s2 m m2 Z P := by
  obtain ⟨bs, bm, Bg, Bm, F, Fm, v, vz, vp, l, q⟩ := p
  exact ⟨bs, bm, Bg, Bm, F, Fm, v, vz, vp, l, q.pk.keep hb, q.rm.keep hb, q.rs.keep hb, q.eq, q.good2, q.fa, q.fb, q.fc, q.low2, fun k hk => ⟨Nat.lt_of_lt_of_le (q.fx k hk).1 hb.size, (q.fx k hk).2⟩⟩
/-- A block more that is apart. -/
theorem four_more (p : Four I X base w W h hm g gm s s2 m m2 Z P) {w' : World} (hb : Below W.heap.size W w') {n : Nat} (hn : W.heap.size ≤ n) (hn2 : n < w'.heap.size) : Four I (fun k => X k ∨ k = n) base w w' h hm g gm s s2 m m2 Z P := by
  obtain ⟨bs, bm, Bg, Bm, F, Fm, v, vz, vp, l, q⟩ := p
  refine ⟨bs, bm, Bg, Bm, F, Fm, v, vz, vp, l, q.pk.keep hb, q.rm.keep hb, q.rs.keep hb, q.eq, q.good2, q.fa, q.fb, q.fc, q.low2, fun k hk => ?_⟩
  rcases hk with hk | rfl
  · exact ⟨Nat.lt_of_lt_of_le (q.fx k hk).1 hb.size, (q.fx k hk).2⟩
  · exact ⟨hn2, Nat.le_trans q.pk.size hn, fun e => by have := (I.foot q.pk.st e).2; omega, fun e => by have := (M.foot q.pk.ms e).2; omega, fun e => by have := mf_lt q.rm e; omega, fun e => by have := sf_lt q.rs e; omega⟩
theorem four_less (p : Four I X base w W h hm g gm s s2 m m2 Z P) {Y : Nat → Prop} (hY : ∀ k, Y k → X k) : Four I Y base w W h hm g gm s s2 m m2 Z P := by
  obtain ⟨bs, bm, Bg, Bm, F, Fm, v, vz, vp, l, q⟩ := p
  exact ⟨bs, bm, Bg, Bm, F, Fm, v, vz, vp, l, q.pk, q.rm, q.rs, q.eq, q.good2, q.fa, q.fb, q.fc, q.low2, fun k hk => q.fx k (hY k hk)⟩
/-- A block that is apart has turned. -/
theorem four_free (p : Four I X base w W h hm g gm s s2 m m2 Z P) {w' : World} {T : Nat → Prop} (ht : Turn T W w') (hT : ∀ k, T k → X k) : Four I X base w w' h hm g gm s s2 m m2 Z P := by
  obtain ⟨bs, bm, Bg, Bm, F, Fm, v, vz, vp, l, q⟩ := p
  exact ⟨bs, bm, Bg, Bm, F, Fm, v, vz, vp, l, ⟨I.turn q.pk.st ht (fun k hk hh => (q.fx k (hT k hh)).2.2.1 hk), M.turn q.pk.ms ht (fun k hk hh => (q.fx k (hT k hh)).2.2.2.1 hk), q.pk.apart, q.pk.good, q.pk.gz, q.pk.gp, q.pk.lz, q.pk.lp, ht.below q.pk.below q.pk.size (fun i hi => (q.fx i (hT i hi)).2.1), Nat.le_trans q.pk.size ht.size, q.pk.low⟩,
    q.rm.turn ht (fun hh => (q.fx gm (hT gm hh)).2.2.2.2.1 (.inl rfl)) (fun k e hh => (q.fx k (hT k hh)).2.2.2.2.1 (.inr (.inl e))) (fun k e hh => (q.fx k (hT k hh)).2.2.2.2.1 (.inr (.inr e))),
    q.rs.turn ht (fun k hk hh => (q.fx k (hT k hh)).2.2.2.2.2 (.inl hk)) (fun y hy k hk hh => (q.fx k (hT k hh)).2.2.2.2.2 (.inr ⟨y, hy, hk⟩)), q.eq, q.good2, q.fa, q.fb, q.fc, q.low2, fun k hk => ⟨Nat.lt_of_lt_of_le (q.fx k hk).1 ht.size, (q.fx k hk).2⟩⟩
theorem four_under (p : Four I X base w W h hm g gm s s2 m m2 Z P) : Below base w W := by
  obtain ⟨bs, bm, Bg, Bm, F, Fm, v, vz, vp, l, q⟩ := p
  exact q.pk.below
/-- Package stock has done something. -/
theorem four_pkg {bs bm Bg Bm : Nat} {F Fm : Nat → Prop} {v vz vp : Value} {l : List Lv} (q : FourAt I X base bs bm w W h hm g gm Bg Bm F Fm v vz vp l s s2 m m2 Z P) {w' : World} {s' : Stk} {m' : Nat} (hl : Left I.DB W bs h F s' w') (hg : GoodM s' m') : Four I X base w w' h hm g gm s' s2 m' m2 Z P ∧ Still X W w' := by
  obtain ⟨F', hd, ht, hf⟩ := hl
  refine ⟨⟨bs, bm, Bg, Bm, F', Fm, v, vz, vp, l, ⟨hd, M.turn q.pk.ms ht (fun k hk hF => q.pk.apart k hF hk), fun k hk hm' => ?_, hg, q.pk.gz, q.pk.gp, q.pk.lz, q.pk.lp, ht.below q.pk.below q.pk.size (fun i hi => Nat.le_trans q.pk.low (I.foot q.pk.st hi).1), Nat.le_trans q.pk.size ht.size, q.pk.low⟩,
    q.rm.turn ht (fun hh => (q.fa gm hh).1 (.inl rfl)) (fun k e hh => (q.fa k hh).1 (.inr (.inl e))) (fun k e hh => (q.fa k hh).1 (.inr (.inr e))),
    q.rs.turn ht (fun k hk hh => (q.fa k hh).2 (.inl hk)) (fun y hy k hk hh => (q.fa k hh).2 (.inr ⟨y, hy, hk⟩)), q.eq, q.good2, fun k hk => ?_, q.fb, q.fc, q.low2, fun k hk => ⟨Nat.lt_of_lt_of_le (q.fx k hk).1 ht.size, (q.fx k hk).2.1, fun e => ?_, (q.fx k hk).2.2.2⟩⟩, F, ht, fun k hk => (q.fx k hk).2.2.1⟩
  · rcases hf k hk with hk | hk
    · exact q.pk.apart k hk hm'
    · have := (M.foot q.pk.ms hm').2
      omega
  · rcases hf k hk with hk | hk
    · exact q.fa k hk
    · exact ⟨fun e => by have := mf_lt q.rm e; omega, fun e => by have := sf_lt q.rs e; omega⟩
  · have := (q.fx k hk).1
    rcases hf k e with e | e
    · exact (q.fx k hk).2.2.1 e
    · omega
/-- The document's stock has done something. -/
theorem four_ref {bs bm Bg Bm : Nat} {F Fm : Nat → Prop} {v vz vp : Value} {l : List Lv} (q : FourAt I X base bs bm w W h hm g gm Bg Bm F Fm v vz vp l s s2 m m2 Z P) {w' : World} {s' : Stk} {m' : Nat} (hl : RAc2 W Bg g v (Bks l) s' w') (hg : GoodM s' m') : Four I X base w w' h hm g gm s s' m m' Z P ∧ Still X W w' := by
  obtain ⟨l', he, v', hr, ht, hv, hk'⟩ := hl
  have hfoot : ∀ k, RFoot g v' k → RFoot g v k ∨ W.heap.size ≤ k := fun k hk => by
    rcases hk with rfl | hk
    · exact .inl (.inl rfl)
    · exact (hv k hk).imp .inr id
  refine ⟨⟨bs, bm, Bg, Bm, F, Fm, v', vz, vp, l', ⟨I.turn q.pk.st ht (fun k hk hh => (q.fa k hk).2 (.inl hh)), M.turn q.pk.ms ht (fun k hk hh => q.fb k hk hh), q.pk.apart, q.pk.good, q.pk.gz, q.pk.gp, q.pk.lz, q.pk.lp, ht.below q.pk.below q.pk.size (fun i hi => Nat.le_trans q.low2 (q.rs.foot hi).1), Nat.le_trans q.pk.size ht.size, q.pk.low⟩,
    q.rm.turn ht (fun hh => q.fc gm (.inl rfl) hh) (fun k e hh => q.fc k (.inr (.inl e)) hh) (fun k e hh => q.fc k (.inr (.inr e)) hh), hr, he, hg, fun k hk => ⟨(q.fa k hk).1, fun e => ?_⟩, fun k hk e => ?_, fun k hk e => ?_, q.low2, fun k hk => ⟨Nat.lt_of_lt_of_le (q.fx k hk).1 ht.size, (q.fx k hk).2.1, (q.fx k hk).2.2.1, (q.fx k hk).2.2.2.1, (q.fx k hk).2.2.2.2.1, fun e => ?_⟩⟩, RFoot g v, ht, fun k hk e => (q.fx k hk).2.2.2.2.2 (.inl e)⟩
  · have hlt := (I.foot q.pk.st hk).2
    rcases e with e | e
    · rcases hfoot k e with e | e
      · exact (q.fa k hk).2 (.inl e)
      · omega
    · rcases hk' k e with e | e
      · exact (q.fa k hk).2 (.inr e)
      · omega
  · have hlt := (M.foot q.pk.ms hk).2
    rcases hfoot k e with e | e
    · exact q.fb k hk e
    · omega
  · have hlt := mf_lt q.rm hk
    rcases hfoot k e with e | e
    · exact q.fc k hk e
    · omega
  · have hlt := (q.fx k hk).1
    rcases e with e | e
    · rcases hfoot k e with e | e
      · exact (q.fx k hk).2.2.2.2.2 (.inl e)
      · omega
    · rcases hk' k e with e | e
      · exact (q.fx k hk).2.2.2.2.2 (.inr e)
      · omega
theorem four_recv1 (p : Four I X base w W h hm g gm s s2 m m2 Z P) (hm1 : m < 100000) {product zone units expiry now : Int} (h1 : I64 product) (h2 : I64 zone) (h3 : I64 units) (h4 : I64 expiry) (h5 : I64 now) :
    Calls Tryz.prog 21 #[.pointer (some ⟨h, 0, none⟩), .pointer (some ⟨hm, 0, none⟩), .int .i64 product, .int .i64 zone, .int .i64 units, .int .i64 expiry, .int .i64 now] W fun e w' => e = .returned (.tuple #[.int .i64 (recvS Z P s product zone units expiry now).1.1, .int .i64 ((recvS Z P s product zone units expiry now).1.2 : Nat)]) ∧ Four I X base w w' h hm g gm (recvS Z P s product zone units expiry now).2 s2 (m + 1) m2 Z P ∧ Still X W w' := by
  obtain ⟨bs, bm, Bg, Bm, F, Fm, v, vz, vp, l, q⟩ := p
  exact (I.recv bs h bm hm F Fm s Z P product zone units expiry now W q.pk.st q.pk.ms q.pk.apart q.pk.good.1 q.pk.gz q.pk.gp q.pk.lz q.pk.lp h1 h2 h3 h4 h5).mono fun e2 w' ⟨he, hl⟩ => ⟨he, four_pkg q hl (good_recv (Z := Z) (P := P) product zone units expiry now q.pk.good hm1)⟩
theorem four_recv2 (p : Four I X base w W h hm g gm s s2 m m2 Z P) (hm1 : m2 < 100000) (product zone units expiry now : Int) :
    Calls Tryz.prog 34 #[.pointer (some ⟨g, 0, none⟩), .pointer (some ⟨gm, 0, none⟩), .int .i64 product, .int .i64 zone, .int .i64 units, .int .i64 expiry, .int .i64 now] W fun e w' => e = .returned (.tuple #[.int .i64 (recvS Z P s2 product zone units expiry now).1.1, .int .i64 ((recvS Z P s2 product zone units expiry now).1.2 : Nat)]) ∧ Four I X base w w' h hm g gm s (recvS Z P s2 product zone units expiry now).2 m (m2 + 1) Z P ∧ Still X W w' := by
  obtain ⟨bs, bm, Bg, Bm, F, Fm, v, vz, vp, l, q⟩ := p
  obtain ⟨s21, u⟩ := s2
  obtain rfl : lts l = s21 := q.eq
  exact (rrecv_any Bg g Bm gm v vz vp u l Z P product zone units expiry now W q.rs q.good2.1 q.rm (by have := q.pk.lz; omega) (by have := q.pk.lp; omega)).mono fun e2 w' ⟨he, hl⟩ => ⟨he, four_ref q hl (good_recv (Z := Z) (P := P) product zone units expiry now q.good2 hm1)⟩
theorem four_move1 (p : Four I X base w W h hm g gm s s2 m m2 Z P) (hm1 : m < 100000) {id zone now : Int} (h1 : I64 id) (h2 : I64 zone) (h3 : I64 now) :
    Calls Tryz.prog 23 #[.pointer (some ⟨h, 0, none⟩), .pointer (some ⟨hm, 0, none⟩), .int .i64 id, .int .i64 zone, .int .i64 now] W fun e w' => e = .returned (.int .i64 ((moveS Z s id zone now).1 : Nat)) ∧ Four I X base w w' h hm g gm (moveS Z s id zone now).2 s2 (m + 1) m2 Z P ∧ Still X W w' := by
  obtain ⟨bs, bm, Bg, Bm, F, Fm, v, vz, vp, l, q⟩ := p
  exact (I.move bs h bm hm F Fm s Z P id zone now W q.pk.st q.pk.ms q.pk.apart q.pk.good.1 q.pk.gz q.pk.gp q.pk.lz q.pk.lp h1 h2 h3).mono fun e2 w' ⟨he, hl⟩ => ⟨he, four_pkg q hl (good_move (Z := Z) id zone now q.pk.good hm1)⟩
theorem four_move2 (p : Four I X base w W h hm g gm s s2 m m2 Z P) (hm1 : m2 < 100000) (id zone now : Int) :
    Calls Tryz.prog 29 #[.pointer (some ⟨g, 0, none⟩), .pointer (some ⟨gm, 0, none⟩), .int .i64 id, .int .i64 zone, .int .i64 now] W fun e w' => e = .returned (.int .i64 ((moveS Z s2 id zone now).1 : Nat)) ∧ Four I X base w w' h hm g gm s (moveS Z s2 id zone now).2 m (m2 + 1) Z P ∧ Still X W w' := by
  obtain ⟨bs, bm, Bg, Bm, F, Fm, v, vz, vp, l, q⟩ := p
  obtain ⟨s21, u⟩ := s2
  obtain rfl : lts l = s21 := q.eq
  exact (rmove_any Bg g Bm gm v vz vp u l Z P id zone now W q.rs q.good2.1 q.rm (by have := q.pk.lz; omega)).mono fun e2 w' ⟨he, hl⟩ => ⟨he, four_ref q hl (good_move (Z := Z) id zone now q.good2 hm1)⟩
theorem four_split1 (p : Four I X base w W h hm g gm s s2 m m2 Z P) (hm1 : m + 1 < 100000) {id units : Int} (h1 : I64 id) (h2 : I64 units) :
    Calls Tryz.prog 22 #[.pointer (some ⟨h, 0, none⟩), .int .i64 id, .int .i64 units] W fun e w' => e = .returned (.tuple #[.int .i64 (splitS s id units).1.1, .int .i64 ((splitS s id units).1.2 : Nat)]) ∧ Four I X base w w' h hm g gm (splitS s id units).2 s2 (m + 2) m2 Z P ∧ Still X W w' := by
  obtain ⟨bs, bm, Bg, Bm, F, Fm, v, vz, vp, l, q⟩ := p
  exact (I.split bs h F s id units W q.pk.st q.pk.good.1 h1 h2).mono fun e2 w' ⟨he, hl⟩ => ⟨he, four_pkg q hl (good_split id units q.pk.good hm1)⟩
theorem four_split2 (p : Four I X base w W h hm g gm s s2 m m2 Z P) (hm1 : m2 + 1 < 100000) (id units : Int) :
    Calls Tryz.prog 30 #[.pointer (some ⟨g, 0, none⟩), .int .i64 id, .int .i64 units] W fun e w' => e = .returned (.tuple #[.int .i64 (splitS s2 id units).1.1, .int .i64 ((splitS s2 id units).1.2 : Nat)]) ∧ Four I X base w w' h hm g gm s (splitS s2 id units).2 m (m2 + 2) Z P ∧ Still X W w' := by
  obtain ⟨bs, bm, Bg, Bm, F, Fm, v, vz, vp, l, q⟩ := p
  obtain ⟨s21, u⟩ := s2
  obtain rfl : lts l = s21 := q.eq
  exact (rsplit_any Bg g v u l id units W q.rs q.good2.1).mono fun e2 w' ⟨he, hl⟩ => ⟨he, four_ref q hl (good_split id units q.good2 hm1)⟩
theorem four_merge1 (p : Four I X base w W h hm g gm s s2 m m2 Z P) {into frm : Int} (h1 : I64 into) (h2 : I64 frm) :
    Calls Tryz.prog 24 #[.pointer (some ⟨h, 0, none⟩), .int .i64 into, .int .i64 frm] W fun e w' => e = .returned (.int .i64 ((mergeS s into frm).1 : Nat)) ∧ Four I X base w w' h hm g gm (mergeS s into frm).2 s2 (m + 1) m2 Z P ∧ Still X W w' := by
  obtain ⟨bs, bm, Bg, Bm, F, Fm, v, vz, vp, l, q⟩ := p
  exact (I.merge bs h F s into frm W q.pk.st q.pk.good.1 h1 h2).mono fun e2 w' ⟨he, hl⟩ => ⟨he, four_pkg q hl (good_merge into frm q.pk.good)⟩
theorem four_merge2 (p : Four I X base w W h hm g gm s s2 m m2 Z P) (into frm : Int) :
    Calls Tryz.prog 31 #[.pointer (some ⟨g, 0, none⟩), .int .i64 into, .int .i64 frm] W fun e w' => e = .returned (.int .i64 ((mergeS s2 into frm).1 : Nat)) ∧ Four I X base w w' h hm g gm s (mergeS s2 into frm).2 m (m2 + 1) Z P ∧ Still X W w' := by
  obtain ⟨bs, bm, Bg, Bm, F, Fm, v, vz, vp, l, q⟩ := p
  obtain ⟨s21, u⟩ := s2
  obtain rfl : lts l = s21 := q.eq
  exact (rmerge_any Bg g v u l into frm W q.rs q.good2.1).mono fun e2 w' ⟨he, hl⟩ => ⟨he, four_ref q hl (good_merge into frm q.good2)⟩
theorem four_mark1 (p : Four I X base w W h hm g gm s s2 m m2 Z P) (hm1 : m < 100000) {id st order grant : Int} (h1 : I64 id) (h2 : I64 st) (h3 : I64 order) (h4 : I64 grant) :
    Calls Tryz.prog 27 #[.pointer (some ⟨h, 0, none⟩), .int .i64 id, .int .i64 st, .int .i64 order, .int .i64 grant] W fun e w' => e = .returned (.int .i64 ((markS s id st order grant).1 : Nat)) ∧ Four I X base w w' h hm g gm (markS s id st order grant).2 s2 (m + 1) m2 Z P ∧ Still X W w' := by
  obtain ⟨bs, bm, Bg, Bm, F, Fm, v, vz, vp, l, q⟩ := p
  exact (I.mark bs h F s id st order grant W q.pk.st q.pk.good.1 h1 h2 h3 h4).mono fun e2 w' ⟨he, hl⟩ => ⟨he, four_pkg q hl (good_mark id st order grant q.pk.good hm1)⟩
theorem four_mark2 (p : Four I X base w W h hm g gm s s2 m m2 Z P) (hm1 : m2 < 100000) (id st order grant : Int) :
    Calls Tryz.prog 32 #[.pointer (some ⟨g, 0, none⟩), .int .i64 id, .int .i64 st, .int .i64 order, .int .i64 grant] W fun e w' => e = .returned (.int .i64 ((markS s2 id st order grant).1 : Nat)) ∧ Four I X base w w' h hm g gm s (markS s2 id st order grant).2 m (m2 + 1) Z P ∧ Still X W w' := by
  obtain ⟨bs, bm, Bg, Bm, F, Fm, v, vz, vp, l, q⟩ := p
  obtain ⟨s21, u⟩ := s2
  obtain rfl : lts l = s21 := q.eq
  exact (rmark_any Bg g v u l id st order grant W q.rs (by have := good_len q.good2.1; simp [lts] at this; omega)).mono fun e2 w' ⟨he, hl⟩ => ⟨he, four_ref q hl (good_mark id st order grant q.good2 hm1)⟩
theorem four_leave1 (p : Four I X base w W h hm g gm s s2 m m2 Z P) (hm1 : m < 100000) {id now : Int} (h1 : I64 id) (h2 : I64 now) :
    Calls Tryz.prog 28 #[.pointer (some ⟨h, 0, none⟩), .int .i64 id, .int .i64 now] W fun e w' => e = .returned (.int .i64 ((leaveS s id now).1 : Nat)) ∧ Four I X base w w' h hm g gm (leaveS s id now).2 s2 (m + 1) m2 Z P ∧ Still X W w' := by
  obtain ⟨bs, bm, Bg, Bm, F, Fm, v, vz, vp, l, q⟩ := p
  exact (I.leave bs h F s id now W q.pk.st q.pk.good.1 h1 h2).mono fun e2 w' ⟨he, hl⟩ => ⟨he, four_pkg q hl (good_leave id now q.pk.good hm1)⟩
theorem four_leave2 (p : Four I X base w W h hm g gm s s2 m m2 Z P) (hm1 : m2 < 100000) (id now : Int) :
    Calls Tryz.prog 33 #[.pointer (some ⟨g, 0, none⟩), .int .i64 id, .int .i64 now] W fun e w' => e = .returned (.int .i64 ((leaveS s2 id now).1 : Nat)) ∧ Four I X base w w' h hm g gm s (leaveS s2 id now).2 m (m2 + 1) Z P ∧ Still X W w' := by
  obtain ⟨bs, bm, Bg, Bm, F, Fm, v, vz, vp, l, q⟩ := p
  obtain ⟨s21, u⟩ := s2
  obtain rfl : lts l = s21 := q.eq
  exact (rleave_any Bg g v u l id now W q.rs q.good2.1).mono fun e2 w' ⟨he, hl⟩ => ⟨he, four_ref q hl (good_leave id now q.good2 hm1)⟩
end
end Lo
end Go.Proofs.YtkfmkchonlajpaaGreat
