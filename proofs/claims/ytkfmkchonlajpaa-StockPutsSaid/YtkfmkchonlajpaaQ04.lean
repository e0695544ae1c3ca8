/- Walks over the document's answer of layer 12: a lot's place, a zone's load, the lot of a number. No condition but those written. Walks over the document's answer of layer 9: may stays be; may something be done now. No condition but those written. Walks over the document's answer of layer 9: may something be done now; stays, the last of which ends. No condition but those written. Walks over the document's answer of layer 9: stays, the last of which ends; into a zone; out of it. No condition but those written. Walks over the document's answer of layer 9: into a zone; out of it. No condition but those written. Walks over the document's answer of layer 12: Mark, Leave, Give. No condition but those written. Walks over the document's answer of layer 12: Leave. No condition but those written. Walks over package master, and the document's answer of layer 10: whether a zone, or a product, may be. No condition but those written. Walks over package master's table of Zones: the one of a number. No condition but those written. The document's answer of layer 10: a master in memory. No condition but those written. Walks over the document's answer of layer 10: the one of a number (Zone); whether two lists are one. No condition but those written. Walks over the document's answer of layer 12: Move. No condition but those written. Walks over the document's answer of layer 12: Split. No condition but those written. Walks over the document's answer of layer 12: Merge. No condition but those written. -/
import Derived.Test.YtkfmkchonlajpaaQ03
import Derived.Test.YtkfmkchonlajpaaQ02
import Derived.IntWalk
import Derived.BigQuiet
import Derived.Deep.QuietTactic
import Derived.Deep.CutRange
import Derived.Maps.AppendAt
import Derived.Deep.RegionLaw
import Derived.Deep.AppendLies
import Derived.BigRegion
import Derived.StillTailTactics
namespace Go.Proofs.Ytkfmkchonlajpaa
open Go.RowKit

namespace Lo
/-- A place as a number; -1: none. -/
def atI (id : Int) (l : List Lt) : Int := match at_ id l with | some i => (i : Int) | none => -1
theorem atI_some {id : Int} {l : List Lt} {i : Nat} (h : at_ id l = some i) : atI id l = i := by unfold atI; rw [h]
theorem atI_none {id : Int} {l : List Lt} (h : at_ id l = none) : atI id l = -1 := by unfold atI; rw [h]
theorem ltake {l : List Lv} {k : Nat} {y : Lv} (hy : l[k]? = some y) : lts (l.take (k + 1)) = lts (l.take k) ++ [y.x] := by
  unfold lts
  rw [List.take_add_one, hy, List.map_append]
  rfl
theorem good_part {s : Stk} (h : Good s) (l r : List Lt) (e : s.1 = l ++ r) (z : Int) : 0 ≤ loadL l z ∧ loadL l z ≤ 268435456 := by
  have h1 := load_le l z 0 (fun x hx => h.units x (by rw [e]; exact List.mem_append_left _ hx))
  have h2 := h.sum
  have h3 := h.given
  have h4 := sum_pos r (fun x hx => h.units x (by rw [e]; exact List.mem_append_right _ hx))
  rw [e, List.map_append, List.sum_append] at h2
  unfold loadL
  have : (0 : Int) ≤ (r.length : Int) := by omega
  omega
set_option maxRecDepth 100000 in
set_option maxHeartbeats 8000000 in
theorem rload_any (B g : Nat) (v : Value) (given : Int) (l : List Lv) (z : Int) (w : World) (h : RS w B g v given l) (hG : Good (lts l, given)) :
    Calls Try.prog 12 #[.pointer (some ⟨g, 0, none⟩), .int .i64 z] w fun e w' => e = .returned (.int .i64 (loadL (lts l) z)) ∧ Below w.heap.size w w' := by
  obtain ⟨q0, d0, rfl⟩ := rs_slice h
  obtain ⟨n, hn⟩ : ∃ n, l.length = n := ⟨_, rfl⟩
  have hL := good_len hG
  have h' := h
  rw [hn] at h'
  have hL2 : n ≤ 256 := by rw [← hn]; simpa [lts] using hL
  have H := Lib.hid h'
  have HN := Lib.hid hn
  have HG := Lib.hid hG
  have hL' : (n : Int) ≤ 256 := by omega
  clear h h' hn hG hL
  go_enter Try.func12, Try.ntmps12
  go_wp2
  go_loopw [5, 6] (fun a i wr => ∃ k : Nat, k ≤ n ∧ i = .int .i64 k ∧ a = .int .i64 (loadL (lts (l.take k)) z) ∧ Hid (Below w.heap.size w wr)) (fun _ i _ => n - (RowKit.intOf i).toNat)
  case atStart => exact ⟨0, Nat.zero_le _, rfl, rfl, Lib.hid (Below.refl _ _)⟩
  case round =>
    obtain ⟨k, hk, rfl, rfl, HB⟩ := hrel
    have HR := H.out.keep HB.out
    have m0 : wr.cell? ⟨g, 0, none⟩ = some (.slice q0 n d0) := HR.blk.cell 0
    by_cases hlt : k < n
    · have hk3 : (k : Int) < (n : Int) := by omega
      obtain ⟨y, hy⟩ : ∃ y, l[k]? = some y := ⟨_, List.getElem?_eq_getElem (by rw [HN.out]; exact hlt)⟩
      obtain ⟨b, e, _, _, hc⟩ := rs_at HR HN.out hy
      subst e
      have hmem := List.mem_of_getElem? hy
      have hst := HR.stays y hmem
      have C := Lib.hid (rin_any y wr hst (by have := HG.out.long y.x (List.mem_map.2 ⟨y, hmem, rfl⟩); rw [hst.len] at this; omega))
      have hb1 := good_part HG.out (lts (l.take k)) (lts (l.drop k)) (by simp only [lts]; rw [← List.map_append, List.take_append_drop]) z
      have hb2 := good_part HG.out (lts (l.take (k + 1))) (lts (l.drop (k + 1))) (by simp only [lts]; rw [← List.map_append, List.take_append_drop]) z
      have TK := Lib.hid (show loadL (lts (l.take (k + 1))) z = loadL (lts (l.take k)) z + addL z y.x by rw [ltake hy, load_snoc])
      rw [TK.out] at hb2
      have HC := Lib.hid hc
      have HRR := Lib.hid HR
      clear hc hy hmem hst HR
      have HY := Lib.hid (show addL z y.x = if inL y.x = z ∧ z ≠ 0 then y.x.units else 0 from rfl)
      generalize addL z y.x = ad at *
      generalize loadL (lts (l.take k)) z = la at *
      generalize inL y.x = zi at *
      obtain ⟨⟨i1, i2, i3, i4, i5, i6, i7, S⟩, p, m, c⟩ := y
      unfold lval at C
      simp only at C HY
      have e0 : wr.cell? ⟨b, k * 8, none⟩ = some (.int .i64 i1) := HC.out wr (Below.refl _ _) 0 (by decide)
      have e1 : wr.cell? ⟨b, k * 8 + 1, none⟩ = some (.int .i64 i2) := HC.out wr (Below.refl _ _) 1 (by decide)
      have e2 : wr.cell? ⟨b, k * 8 + 2, none⟩ = some (.int .i64 i3) := HC.out wr (Below.refl _ _) 2 (by decide)
      have e3 : wr.cell? ⟨b, k * 8 + 3, none⟩ = some (.int .i64 i4) := HC.out wr (Below.refl _ _) 3 (by decide)
      have e4 : wr.cell? ⟨b, k * 8 + 4, none⟩ = some (.int .i64 i5) := HC.out wr (Below.refl _ _) 4 (by decide)
      have e5 : wr.cell? ⟨b, k * 8 + 5, none⟩ = some (.int .i64 i6) := HC.out wr (Below.refl _ _) 5 (by decide)
      have e6 : wr.cell? ⟨b, k * 8 + 6, none⟩ = some (.int .i64 i7) := HC.out wr (Below.refl _ _) 6 (by decide)
      have e7 : wr.cell? ⟨b, k * 8 + 7, none⟩ = some (.slice p m c) := HC.out wr (Below.refl _ _) 7 (by decide)
      go_wp2_with fail
      refine C.out.mono ?_
      rintro E w3 ⟨rfl, hb⟩
      have B3 := Lib.hid (HB.out.trans (hb.mono HB.out.size))
      have g0 : w3.cell? ⟨g, 0, none⟩ = some (.slice (some ⟨b, 0, none⟩) n d0) := (HRR.out.keep hb).blk.cell 0
      have g2 : w3.cell? ⟨b, k * 8 + 2, none⟩ = some (.int .i64 i3) := HC.out w3 hb 2 (by decide)
      clear hb C HB e0 e1 e2 e3 e4 e5 e6 e7 m0 HRR HC
      by_cases h1 : zi = z
      · have t1 : (zi == z) = true := by simp [h1]
        by_cases h2 : z = 0
        · have t2 : (z != 0) = false := by simp [h2]
          have HE := Lib.hid (show loadL (lts (l.take (k + 1))) z = la by rw [TK.out, HY.out, if_neg (fun hh => hh.2 h2)]; omega)
          clear h1 h2 hb1 hb2
          go_wp2
          go_roundw
          case rel => exact ⟨k + 1, by omega, by go_num, by rw [HE.out], B3⟩
          case measure => simp [RowKit.intOf]; omega
        · have t2 : (z != 0) = true := by simp [h2]
          have HAD : Hid (ad = i3) := Lib.hid (by rw [HY.out, if_pos ⟨h1, h2⟩])
          rw [HAD.out] at hb2
          have HE := Lib.hid (show loadL (lts (l.take (k + 1))) z = la + i3 by rw [TK.out, HAD.out])
          clear h1 h2
          obtain ⟨hb1a, hb1b⟩ := hb1
          obtain ⟨hb2a, hb2b⟩ := hb2
          go_wp2
          go_roundw
          case rel => exact ⟨k + 1, by omega, by go_num, by rw [HE.out], B3⟩
          case measure => simp [RowKit.intOf]; omega
      · have t1 : (zi == z) = false := by simp [h1]
        have HE := Lib.hid (show loadL (lts (l.take (k + 1))) z = la by rw [TK.out, HY.out, if_neg (fun hh => h1 hh.1)]; omega)
        clear h1 hb1 hb2
        go_wp2
        go_roundw
        case rel => exact ⟨k + 1, by omega, by go_num, by rw [HE.out], B3⟩
        case measure => simp [RowKit.intOf]; omega
    · obtain rfl : k = n := by omega
      have HE : Hid (l.take k = l) := Lib.hid (List.take_of_length_le (by rw [HN.out]; exact Nat.le_refl _))
      rw [HE.out]
      go_wp2
      go_ret
      exact ⟨rfl, HB.out⟩
/-- The lot of a number; where its stays lie. -/
def lotV (id : Int) (l : List Lv) : Lv × Nat := match at_ id (lts l) with
  | some i => match l[i]? with | some y => (y, 0) | none => (⟨lt0, none, 0, 0⟩, 5)
  | none => (⟨lt0, none, 0, 0⟩, 5)
theorem lot_say (id : Int) (l : List Lv) (given : Int) : ((lotV id l).1.x, (lotV id l).2) = lotS (lts l, given) id := by
  unfold lotV lotS
  simp only
  cases h : at_ id (lts l) with
  | none => rfl
  | some i =>
    simp only
    have e : (lts l)[i]? = (l[i]?).map Lv.x := by unfold lts; rw [List.getElem?_map]
    rw [e]
    cases l[i]? <;> rfl
theorem lot_st {W : World} {B g : Nat} {v : Value} {given : Int} {l : List Lv} (h : RS W B g v given l) (id : Int) : St W (lotV id l).1 := by
  unfold lotV
  cases at_ id (lts l) with
  | none => exact ⟨rw_nil _, Nat.le_refl _⟩
  | some i =>
    simp only
    cases hi : l[i]? with
    | none => exact ⟨rw_nil _, Nat.le_refl _⟩
    | some y => exact h.stays y (List.mem_of_getElem? hi)
end Lo
end Go.Proofs.Ytkfmkchonlajpaa

namespace Go.Proofs.Ytkfmkchonlajpaa
open Go.RowKit

namespace Sy
/-- The first ones are as they may be. -/
def OkTo (S : List Sy) (k : Nat) : Prop := ∀ (i : Nat) (s : Sy), i < k → S[i]? = some s → 1 ≤ s.zone ∧ 0 ≤ s.frm ∧ (s.frm < s.to ∨ s.to = -1 ∧ i + 1 = S.length) ∧ ∀ t, 0 < i → S[i - 1]? = some t → t.to = s.frm
theorem okto_end {S : List Sy} (h : OkTo S S.length) : rightB S = true := right_yes fun i s hs => by
  obtain ⟨h1, h2, h3, h4⟩ := h i s (List.getElem?_eq_some_iff.1 hs).1 hs
  refine ⟨h1, h2, h3, fun t ht => ?_⟩
  have := (h (i + 1) t (List.getElem?_eq_some_iff.1 ht).1 ht).2.2.2 s (by omega) (by simpa using hs)
  omega
theorem okto_next {S : List Sy} {k : Nat} {x : Sy} (h : OkTo S k) (hx : S[k]? = some x) (h1 : 1 ≤ x.zone) (h2 : 0 ≤ x.frm) (h3 : x.frm < x.to ∨ x.to = -1 ∧ k + 1 = S.length) (h4 : ∀ t, 0 < k → S[k - 1]? = some t → t.to = x.frm) : OkTo S (k + 1) := fun i s hi hs => by
  by_cases hik : i < k
  · exact h i s hik hs
  · obtain rfl : i = k := by omega
    rw [hx] at hs
    rw [← Option.some.inj hs]
    exact ⟨h1, h2, h3, h4⟩
theorem bad_at {S : List Sy} {k : Nat} {x : Sy} (hx : S[k]? = some x) (h : ¬ (1 ≤ x.zone ∧ 0 ≤ x.frm ∧ (x.frm < x.to ∨ x.to = -1 ∧ k + 1 = S.length))) : rightB S = false :=
  right_no fun hr => h (by
    obtain ⟨a, b, c, _⟩ := hr k x hx
    exact ⟨a, b, c⟩)
theorem bad_join {S : List Sy} {k : Nat} {x y : Sy} (hx : S[k + 1]? = some x) (hy : S[k]? = some y) (h : y.to ≠ x.frm) : rightB S = false :=
  right_no fun hr => h ((hr k y hy).2.2.2 x hx).symm
set_option maxRecDepth 100000 in
set_option maxHeartbeats 8000000 in
theorem r9right_any (p : Option Addr) (n c : Nat) (S : List Sy) (w : World) (h : Rw 3 scells w p n S) (hn : n ≤ 1000000) :
    Calls Try.prog 26 #[.slice p n c] w fun e w' => e = .returned (.bool (rightB S)) ∧ Below w.heap.size w w' := by
  have H := Lib.hid h
  have HN := Lib.hid h.1
  have hn' : (n : Int) ≤ 1000000 := by omega
  clear h
  go_enter Try.func26, Try.ntmps26
  go_wp2
  go_loopw [3] (fun i wr => ∃ k : Nat, k ≤ n ∧ i = .int .i64 k ∧ Hid (OkTo S k) ∧ Hid (Below w.heap.size w wr)) (fun i _ => n - (RowKit.intOf i).toNat)
  case atStart => exact ⟨0, Nat.zero_le _, rfl, Lib.hid (fun i s hi => by omega), Lib.hid (Below.refl _ _)⟩
  case round =>
    obtain ⟨k, hk, rfl, HO, HB⟩ := hrel
    by_cases hlt : k < n
    · have hk3 : (k : Int) < (n : Int) := by omega
      have HR := H.out.keep scells_len HB.out
      obtain ⟨b, o, rfl, hc⟩ := HR.2 (by omega)
      obtain ⟨x, hx⟩ : ∃ x, S[k]? = some x := ⟨_, List.getElem?_eq_getElem (by rw [HN.out]; exact hlt)⟩
      have e0 : wr.cell? ⟨b, o + k * 3, none⟩ = some (.int .i64 x.zone) := hc k x hx 0 (by decide)
      have e1 : wr.cell? ⟨b, o + k * 3 + 1, none⟩ = some (.int .i64 x.frm) := hc k x hx 1 (by decide)
      have e2 : wr.cell? ⟨b, o + k * 3 + 2, none⟩ = some (.int .i64 x.to) := hc k x hx 2 (by decide)
      have HX := Lib.hid hx
      have HC := Lib.hid hc
      clear hc hx HR
      go_upto_region 5 with fail
      have B2 := Lib.hid (HB.out.alloc HB.out.size (.cells #[.int .i64 x.zone, .int .i64 x.frm, .int .i64 x.to] 57))
      have X2 := Lib.hid (Lies.new wr 57 #[.int .i64 x.zone, .int .i64 x.frm, .int .i64 x.to])
      have HA := Lib.hid (alloc_below wr (.cells #[.int .i64 x.zone, .int .i64 x.frm, .int .i64 x.to] 57))
      obtain ⟨w2, hw2⟩ : ∃ w2, wr.alloc (.cells #[.int .i64 x.zone, .int .i64 x.frm, .int .i64 x.to] 57) = w2 := ⟨_, rfl⟩
      rw [hw2] at B2 X2 HA ⊢
      clear hw2 e0 e1 e2 HB
      have x0 : w2.cell? ⟨wr.heap.size, 0, none⟩ = some (.int .i64 x.zone) := X2.out.cell 0
      have x1 : w2.cell? ⟨wr.heap.size, 1, none⟩ = some (.int .i64 x.frm) := X2.out.cell 1
      have x2 : w2.cell? ⟨wr.heap.size, 2, none⟩ = some (.int .i64 x.to) := X2.out.cell 2
      have BAD := Lib.hid (fun hh => bad_at HX.out hh)
      have NEXT := Lib.hid (fun h1 h2 h3 h4 => okto_next HO.out HX.out h1 h2 h3 h4)
      have JOIN := Lib.hid (fun (hk0 : 0 < k) y (hy : S[k - 1]? = some y) (hh : y.to ≠ x.frm) => bad_join (k := k - 1) (by rw [Nat.sub_add_cancel hk0]; exact HX.out) hy hh)
      clear HO
      obtain ⟨xz, xf, xt⟩ := x
      simp only at x0 x1 x2 BAD NEXT JOIN ⊢
      rw [HN.out] at BAD NEXT
      by_cases hz : 1 ≤ xz
      case neg =>
        have HE := Lib.hid (BAD.out (fun hh => hz hh.1))
        have hz' : xz < 1 := by omega
        clear BAD NEXT JOIN hz
        go_wp2
        go_ret
        exact ⟨by rw [HE.out]; rfl, B2.out⟩
      by_cases hf : 0 ≤ xf
      case neg =>
        have HE := Lib.hid (BAD.out (fun hh => hf hh.2.1))
        have hf' : decide (xf < 0) = true := by simp; omega
        have hz' : decide (xz < 1) = false := by simp; omega
        clear BAD NEXT JOIN hf hz
        go_wp2
        go_ret
        exact ⟨by rw [HE.out]; rfl, B2.out⟩
      by_cases ht : xf < xt ∨ xt = -1 ∧ k + 1 = n
      case neg =>
        have HE := Lib.hid (BAD.out (fun hh => ht hh.2.2))
        have hf' : decide (xf < 0) = false := by simp; omega
        have hz' : decide (xz < 1) = false := by simp; omega
        have ht1 : xt ≤ xf := by omega
        by_cases hm : xt = -1
        · have hm1 : (xt != -1) = false := by simp [hm]
          have hk4 : (k : Int) + 1 < (n : Int) := by omega
          clear BAD NEXT JOIN hf hz ht hm
          go_wp2
          go_ret
          exact ⟨by rw [HE.out]; rfl, B2.out⟩
        · have hm1 : (xt != -1) = true := by simp [hm]
          clear BAD NEXT JOIN hf hz ht hm
          go_wp2
          go_ret
          exact ⟨by rw [HE.out]; rfl, B2.out⟩
      have hf' : decide (xf < 0) = false := by simp; omega
      have hz' : decide (xz < 1) = false := by simp; omega
      have HT := Lib.hid ht
      have HZ := Lib.hid hz
      have HF := Lib.hid hf
      have key : (xt ≤ xf ∧ (xt != -1) = false ∧ ¬ (k : Int) + 1 < (n : Int)) ∨ ¬ xt ≤ xf := by
        rcases ht with ht | ⟨h1, h2⟩
        · exact .inr (by omega)
        · exact .inl ⟨by omega, by simp [h1], by omega⟩
      clear ht hz hf BAD
      by_cases hk0 : k = 0
      · have NX := Lib.hid (NEXT.out HZ.out HF.out HT.out (fun t h0 => by omega))
        subst hk0
        clear NEXT JOIN HT HZ HF
        rcases key with ⟨t1, t2, t3⟩ | t1
        all_goals
          go_wp2_with fail
          go_quiet (fail)
          go_wp2
          go_roundw
          case rel => exact ⟨1, by omega, rfl, NX, Lib.hid (below_drewN B2.out _)⟩
          case measure => simp [RowKit.intOf]; omega
      · obtain ⟨y, hy⟩ : ∃ y, S[k - 1]? = some y := ⟨_, List.getElem?_eq_getElem (by rw [HN.out]; omega)⟩
        obtain ⟨j, rfl⟩ : ∃ j, k = j + 1 := ⟨k - 1, by omega⟩
        rw [Nat.add_sub_cancel] at hy
        have y2 : w2.cell? ⟨b, o + j * 3 + 2, none⟩ = some (.int .i64 y.to) := by
          have hc := HC.out j y hy 2 (by decide)
          exact (HA.out.cell (p := ⟨b, o + j * 3 + 2, none⟩) (World.block_lt_of_cell? wr _ hc)).trans hc
        have q1 : IntKind.i64.wrap ((j : Int) + 1 - 1) = (j : Int) := by rw [show (j : Int) + 1 - 1 = j by omega]; exact IntWalk.i64_in _ (by omega)
        have q2 : IntKind.i64.wrap (j : Int) = (j : Int) := IntWalk.i64_in _ (by omega)
        have q4 : (0 : Int) < (j : Int) + 1 := by omega
        by_cases hj : y.to = xf
        · have NX := Lib.hid (NEXT.out HZ.out HF.out HT.out (fun t _ ht => by
            rw [Nat.add_sub_cancel, hy] at ht
            rw [← Option.some.inj ht]
            exact hj))
          have j1 : (y.to != xf) = false := by simp [hj]
          clear NEXT JOIN HT HZ HF hy hj hk0
          generalize y.to = yt at *
          rcases key with ⟨t1, t2, t3⟩ | t1
          all_goals
            go_wp2_with fail
            go_quiet (fail)
            clear q1 q2 q4
            go_wp2
            go_roundw
            case rel => exact ⟨j + 1 + 1, by omega, by go_num, NX, Lib.hid (below_drewN B2.out _)⟩
            case measure => simp [RowKit.intOf]; omega
        · have HE := Lib.hid (JOIN.out (by omega) y (by rw [Nat.add_sub_cancel]; exact hy) hj)
          have j1 : (y.to != xf) = true := by simp [hj]
          clear NEXT JOIN HT HZ HF hy hj hk0
          generalize y.to = yt at *
          rcases key with ⟨t1, t2, t3⟩ | t1
          all_goals
            go_wp2_with fail
            go_quiet (fail)
            clear q1 q2 q4
            go_wp2
            go_ret
            exact ⟨by rw [HE.out]; rfl, below_drewN B2.out _⟩
    · obtain rfl : k = n := by omega
      have HE := Lib.hid (okto_end (S := S) (by rw [HN.out]; exact HO.out))
      go_wp2
      go_ret
      exact ⟨by rw [HE.out]; rfl, HB.out⟩
end Sy
end Go.Proofs.Ytkfmkchonlajpaa

namespace Go.Proofs.Ytkfmkchonlajpaa
open Go.RowKit Go.Maps

namespace Sy
/-- May something be done now? -/
def mayR (S : List Sy) (now : Int) : Bool := rightB S && (decide (0 ≤ now) && (match S.getLast? with | none => true | some s => (decide (s.to = -1) && decide (s.frm ≤ now)) || decide (s.to = now)))
theorem mayR_iff {S : List Sy} {now : Int} : mayR S now = true ↔ May S now := by
  unfold mayR May
  rw [Bool.and_eq_true, Bool.and_eq_true, right_B, decide_eq_true_eq]
  refine and_congr_right fun _ => and_congr_right fun _ => ?_
  cases h : S.getLast? with
  | none => simp
  | some s => simp
theorem mayR_f {S : List Sy} {now : Int} (h : ¬ May S now) : mayR S now = false := by
  cases hb : mayR S now
  · rfl
  · exact absurd (mayR_iff.1 hb) h
end Sy
end Go.Proofs.Ytkfmkchonlajpaa

namespace Go.Proofs.Ytkfmkchonlajpaa
open Go.RowKit Go.Maps

namespace Sy
theorem infoS9 : (Try.prog.info? 57).map (fun i => (i.zero, i.size, i.bytes)) = some (some (.agg #[.int .i64 0, .int .i64 0, .int .i64 0]), 3, 24) := by kernel_rfl
def stopS (now : Int) (s : Sy) : Sy := ⟨s.zone, s.frm, if s.to = -1 then now else s.to⟩
def longS (s : Sy) : Bool := decide (s.frm < s.to)
/-- Each one that goes on ends; those that have no minute are gone. -/
def untilR (S : List Sy) (now : Int) : List Sy := (S.map (stopS now)).filter longS
theorem untilR_snoc (A : List Sy) (s : Sy) (now : Int) : untilR (A ++ [s]) now = untilR A now ++ if longS (stopS now s) = true then [stopS now s] else [] := by
  unfold untilR
  rw [List.map_append, List.filter_append]
  congr 1
  simp only [List.map_cons, List.map_nil, List.filter_cons, List.filter_nil]
theorem untilR_len (S : List Sy) (now : Int) : (untilR S now).length ≤ S.length := by
  unfold untilR
  exact Nat.le_trans (List.length_filter_le _ _) (by simp)
theorem stop_not {now : Int} {s : Sy} (h : s.to ≠ -1) : stopS now s = s := by
  unfold stopS
  rw [if_neg h]
theorem untilR_shut {A : List Sy} (h : Shut A) (now : Int) : untilR A now = A := by
  have hm : ∀ s ∈ A, s.frm < s.to ∧ 0 ≤ s.frm := by
    intro s hs
    obtain ⟨i, hi⟩ := List.mem_iff_getElem?.1 hs
    exact ⟨(h i s hi).2.2.1, (h i s hi).2.1⟩
  unfold untilR
  have h1 : A.map (stopS now) = A := by
    conv => rhs; rw [← List.map_id A]
    refine List.map_congr_left fun s hs => ?_
    have := hm s hs
    rw [stop_not (by omega)]
    rfl
  rw [h1, List.filter_eq_self]
  intro s hs
  have := hm s hs
  simp only [longS, decide_eq_true_eq]
  omega
/-- Where something may be done now. -/
theorem untilR_may {S : List Sy} {now : Int} (h : May S now) : untilR S now = untilS S now := by
  rcases ends_of S with rfl | ⟨A, s, rfl⟩
  · rfl
  · obtain ⟨h1, h2, h3, h4, h5⟩ := right_snoc.1 h.1
    rw [untilR_snoc, untilR_shut h1]
    have h0 := h.2.1
    by_cases e : s.to = -1
    · have es : stopS now s = ⟨s.zone, s.frm, now⟩ := by unfold stopS; rw [if_pos e]
      rw [es]
      by_cases hn : s.frm < now
      · rw [until_cut e hn, if_pos (by simpa [longS] using hn)]
      · rw [until_drop e hn, if_neg (by simpa [longS] using hn), List.append_nil]
    · rw [until_shut e, stop_not e, if_pos (by
        rcases h4 with h4 | h4
        · simpa [longS] using h4
        · exact absurd h4 e)]
theorem takeS {S : List Sy} {k : Nat} {x : Sy} (hx : S[k]? = some x) : S.take (k + 1) = S.take k ++ [x] := by rw [List.take_add_one, hx]; rfl
end Sy
end Go.Proofs.Ytkfmkchonlajpaa

namespace Go.Proofs.Ytkfmkchonlajpaa
open Go.RowKit Go.Maps

namespace Sy
theorem own_low {w : World} {B B' : Nat} {e : TypeId} {k n : Nat} {v : Value} {xs : List Value} (h : w.ownsRow B e k v n xs) (hb : B' ≤ B) : w.ownsRow B' e k v n xs := by
  refine ⟨h.1, ?_⟩
  rcases h.2 with h0 | ⟨g, cap, cur, e1, h1, h2⟩
  · exact .inl h0
  · exact .inr ⟨g, cap, cur, e1, Nat.le_trans hb h1, h2⟩
end Sy
end Go.Proofs.Ytkfmkchonlajpaa

namespace Go.Proofs.Ytkfmkchonlajpaa
open Go.RowKit

namespace Lo
/-- What an act leaves of the document's stock. -/
def RAc2 (w : World) (B g : Nat) (v : Value) (K : Nat → Prop) (s : Stk) (w' : World) : Prop := ∃ l', lts l' = s.1 ∧ RDone w B g v K s.2 l' w'
theorem ract2_same {w w' : World} {B g : Nat} {v : Value} {given : Int} {l : List Lv} (h : RS w B g v given l) (hb : Below w.heap.size w w') : RAc2 w B g v (Bks l) (lts l, given) w' := ⟨l, rfl, rdone_same h hb⟩
/-- A store into a lot's cell. -/
theorem rs_cell {W : World} {B g b n d : Nat} {given : Int} {l : List Lv} (h : RS W B g (.slice (some ⟨b, 0, none⟩) n d) given l) (hn : l.length = n) {i : Nat} {y y' : Lv} (hy : l[i]? = some y) {j : Nat} (hj : j < 8) {u : Value} (he : lcells y' = (lcells y).set j u) (hs : St W y') (hk : ∀ k, Bk y' k → k ≠ g ∧ b ≠ k) :
    RS (W.setCell ⟨b, i * 8 + j, none⟩ u) B g (.slice (some ⟨b, 0, none⟩) n d) given (l.set i y') := by
  have hr := h.row
  rw [hn] at hr
  have hbg : b ≠ g := fun e => own_blk_ne hr h.blk (by decide) (by rw [e]; rfl)
  have hT : Turn (fun k => k = b) W (W.setCell ⟨b, i * 8 + j, none⟩ u) := (Turn.refl (fun k => k = b) W).setCell (p := ⟨b, i * 8 + j, none⟩) (.inl rfl) _
  refine ⟨h.base, h.blk.turn hT (fun e => hbg e.symm), ?_, fun z hz => ?_, fun z hz k hkz => ?_⟩
  · rw [List.length_set, hn]
    exact row_store lcells_len hr hy hj he
  · rcases List.mem_or_eq_of_mem_set hz with hz | rfl
    · exact (h.stays z hz).turn hT (fun k hkz e => (h.apart z hz k hkz).2 (by rw [e]; rfl))
    · exact hs.turn hT (fun k hkz e => (hk k hkz).2 e.symm)
  · rcases List.mem_or_eq_of_mem_set hz with hz | rfl
    · exact h.apart z hz k hkz
    · exact ⟨(hk k hkz).1, fun e => (hk k hkz).2 (by simpa [Value.ownBlock] using e)⟩
theorem lts_set {l : List Lv} {i : Nat} {y : Lv} : lts (l.set i y) = (lts l).set i y.x := by unfold lts; rw [List.map_set]
theorem mark_none {s : Stk} {id st order grant : Int} (h : at_ id s.1 = none) : markS s id st order grant = (5, s) := by unfold markS; rw [h]
theorem mark_some {s : Stk} {id st order grant : Int} {i : Nat} {x : Lt} (h : at_ id s.1 = some i) (hx : s.1[i]? = some x) :
    markS s id st order grant = if st < 0 ∨ 4 < st ∨ order < 0 ∨ grant < 0 then (1, s) else (0, (s.1.set i { x with status := st, order := order, grant := grant }, s.2)) := by
  unfold markS
  rw [h]
  simp only [hx]
theorem at_of {l : List Lv} {id : Int} {i : Nat} (h : at_ id (lts l) = some i) : ∃ y, l[i]? = some y ∧ (lts l)[i]? = some y.x := by
  have hi := at_lt h
  have hi2 : i < l.length := by simpa [lts] using hi
  exact ⟨l[i], List.getElem?_eq_getElem hi2, by unfold lts; rw [List.getElem?_map, List.getElem?_eq_getElem hi2]; rfl⟩
theorem give_bad {s : Stk} {id : Int} (h : id < s.2 ∨ 256 < id) : giveS s id = (1, s) := by unfold giveS; rw [if_pos h]
theorem give_ok {s : Stk} {id : Int} (h : ¬ (id < s.2 ∨ 256 < id)) : giveS s id = (0, (s.1, id)) := by unfold giveS; rw [if_neg h]
theorem RS.gave {W : World} {B g : Nat} {v : Value} {given : Int} {l : List Lv} (h : RS W B g v given l) (u : Int) : RS (W.setCell ⟨g, 1, none⟩ (.int .i64 u)) B g v u l := by
  have hT : Turn (fun k => k = g) W (W.setCell ⟨g, 1, none⟩ (.int .i64 u)) := (Turn.refl (fun k => k = g) W).setCell (p := ⟨g, 1, none⟩) (.inl rfl) _
  exact ⟨h.base, by simpa using h.blk.set_ 1 (.int .i64 u), own_turn h.row hT (fun k hk e => own_blk_ne h.row h.blk (by decide) (by rw [hk, e])), fun y hy => (h.stays y hy).turn hT (fun k hk e => (h.apart y hy k hk).1 e), h.apart⟩
set_option maxRecDepth 100000 in
set_option maxHeartbeats 4000000 in
theorem rgive_any (B g : Nat) (v : Value) (given : Int) (l : List Lv) (id : Int) (w : World) (h : RS w B g v given l) :
    Calls Try.prog 14 #[.pointer (some ⟨g, 0, none⟩), .int .i64 id] w fun e w' =>
      e = .returned (.int .i64 ((giveS (lts l, given) id).1 : Nat)) ∧ RAc2 w B g v (Bks l) (giveS (lts l, given) id).2 w' := by
  have HE := Lib.hid (ract2_same h (Below.refl _ _))
  have m1 : w.cell? ⟨g, 1, none⟩ = some (.int .i64 given) := h.blk.cell 1
  have f1 : w.frozen? ⟨g, 1, none⟩ = false := h.blk.frozen 1
  by_cases hbad : id < given ∨ 256 < id
  · rw [give_bad hbad]
    have c : id < given ∨ (¬ id < given ∧ 256 < id) := by omega
    clear hbad h f1
    rcases c with h1 | ⟨h1, h2⟩
    all_goals
      go_enter Try.func14, Try.ntmps14
      go_wp2
      go_ret
      exact ⟨rfl, HE.out⟩
  · rw [give_ok hbad]
    have h1 : ¬ id < given := fun e => hbad (.inl e)
    have h2 : ¬ 256 < id := fun e => hbad (.inr e)
    have FIN : Hid (RAc2 w B g v (Bks l) (lts l, id) (w.setCell ⟨g, 1, none⟩ (.int .i64 id))) := Lib.hid ⟨l, rfl, v, h.gave id, (Turn.refl _ w).setCell (p := ⟨g, 1, none⟩) (.inl (.inl rfl)) _, fun k hk => .inl hk, fun k hk => .inl hk⟩
    clear hbad h HE
    go_enter Try.func14, Try.ntmps14
    go_wp2
    go_ret
    exact ⟨rfl, FIN.out⟩
end Lo
end Go.Proofs.Ytkfmkchonlajpaa

namespace Go.Proofs.Ytkfmkchonlajpaa
open Go.RowKit

namespace Lo
/-- Stays that are handed out, without an error: they lie at a new place. -/
theorem ok_new {L : List Sy.Sy} {w w' : World} {e : Ending} (h : Sy.OkEnd L w e w') : ∃ q n c, e = .returned (.tuple #[.slice q n c, .int .i64 0]) ∧ n ≤ c ∧ Rw 3 Sy.scells w' q n L ∧ (∀ k, (0 < n ∧ ∃ a, q = some a ∧ a.block = k) → w.heap.size ≤ k) ∧ Below w.heap.size w w' := by
  obtain ⟨v, rfl, ho, hb⟩ := h
  obtain ⟨q, c, rfl, hc, hr⟩ := rw_own Sy.scells_len ho
  refine ⟨q, L.length, c, rfl, hc, hr, fun k hk => ?_, hb⟩
  obtain ⟨h0, a, rfl, rfl⟩ := hk
  obtain ⟨b, cc, e, h1, _, _⟩ := own_some ho h0
  injection e with e _ _
  injection e with e
  rw [e]
  exact h1
open Classical in
theorem leave_none {s : Stk} {id now : Int} (h : at_ id s.1 = none) : leaveS s id now = (5, s) := by unfold leaveS; rw [h]
open Classical in
theorem leave_some {s : Stk} {id now : Int} {i : Nat} {x : Lt} (h : at_ id s.1 = some i) (hx : s.1[i]? = some x) :
    leaveS s id now = if Sy.May x.stays now ∧ Sy.On x.stays then (0, (s.1.set i { x with stays := Sy.untilS x.stays now }, s.2)) else (1, s) := by
  unfold leaveS
  rw [h]
  simp only [hx]
  rfl
/-- Other stays for a lot. -/
theorem rs_stays {w w1 : World} {B g b n d i : Nat} {given : Int} {l : List Lv} {y : Lv} {L : List Sy.Sy} {q : Option Addr} {m c : Nat} (hb : Below w.heap.size w w1) (h : RS w B g (.slice (some ⟨b, 0, none⟩) n d) given l) (hn : l.length = n) (hy : l[i]? = some y)
    (hr : Rw 3 Sy.scells w1 q m L) (hc : m ≤ c) (hk : ∀ k, (0 < m ∧ ∃ a, q = some a ∧ a.block = k) → w.heap.size ≤ k) :
    RAc2 w B g (.slice (some ⟨b, 0, none⟩) n d) (Bks l) ((lts l).set i { y.x with stays := L }, given) (w1.setCell ⟨b, i * 8 + 7, none⟩ (.slice q m c)) := by
  have h1 := h.keep hb
  have hrow := h.row
  rw [hn] at hrow
  have hbl := (own_lt hrow (k := b) rfl).2
  have hgl := h.blk.lt
  have R := rs_cell h1 hn hy (y' := ⟨{ y.x with stays := L }, q, m, c⟩) (j := 7) (by decide) (u := .slice q m c) rfl ⟨hr, hc⟩ (fun k hk' => by
    have := hk k hk'
    exact ⟨by omega, by omega⟩)
  exact ⟨_, lts_set, _, R, (Turn.of_below hb).setCell (p := ⟨b, i * 8 + 7, none⟩) (.inl (.inr rfl)) _, fun k hk => .inl hk, fun k hk' => (bks_set hk').imp id (hk k)⟩
end Lo
end Go.Proofs.Ytkfmkchonlajpaa

namespace Go.Proofs.Ytkfmkchonlajpaa
open Go.RowKit

namespace Ms
theorem ft_any (n a b : Int) (w : World) : Calls Try.prog 53 #[.int .i64 n, .int .i64 a, .int .i64 b] w fun e w' => e = .returned (.bool (ft n a b)) ∧ w = w' := by
  by_cases h1 : a ≤ n
  · by_cases h2 : n ≤ b
    · have E := Lib.hid (ft_t.2 ⟨h1, h2⟩)
      go_enter Try.func53, Try.ntmps53
      go_wp2
      go_ret
      exact ⟨by rw [E.out]; rfl, rfl⟩
    · have E := Lib.hid (ft_f.2 (fun h : a ≤ n ∧ n ≤ b => h2 h.2))
      have h2' : decide (n ≤ b) = false := by simpa using h2
      go_enter Try.func53, Try.ntmps53
      go_wp2
      go_ret
      exact ⟨by rw [E.out]; rfl, rfl⟩
  · have E := Lib.hid (ft_f.2 (fun h : a ≤ n ∧ n ≤ b => h1 h.1))
    have h1' : decide (a ≤ n) = false := by simpa using h1
    go_enter Try.func53, Try.ntmps53
    go_wp2
    go_ret
    exact ⟨by rw [E.out]; rfl, rfl⟩
theorem tenth_any (n : Int) (w : World) : Calls Try.prog 54 #[.int .i64 n] w fun e w' => e = .returned (.bool (ft n (-1099511627776) 1099511627776)) ∧ w = w' := by
  have C := Lib.hid (fun W => ft_any n (-1099511627776) 1099511627776 W)
  generalize ft n (-1099511627776) 1099511627776 = u at *
  go_enter Try.func54, Try.ntmps54
  go_wp2_with fail
  refine (C.out _).mono ?_
  rintro e w' ⟨rfl, rfl⟩
  go_wp2
  go_ret
  exact ⟨rfl, rfl⟩
theorem minutes_any (n : Int) (w : World) : Calls Try.prog 55 #[.int .i64 n] w fun e w' => e = .returned (.bool (ft n 0 1048575)) ∧ w = w' := by
  have C := Lib.hid (fun W => ft_any n 0 1048575 W)
  generalize ft n 0 1048575 = u at *
  go_enter Try.func55, Try.ntmps55
  go_wp2_with fail
  refine (C.out _).mono ?_
  rintro e w' ⟨rfl, rfl⟩
  go_wp2
  go_ret
  exact ⟨rfl, rfl⟩
set_option maxRecDepth 100000 in
set_option maxHeartbeats 2000000 in
theorem maybeZ_any (x : Zn) (w : World) : Calls Try.prog 32 #[zval x] w fun e w' => e = .returned (.bool (rightZ x)) ∧ Below w.heap.size w w' := by
  obtain ⟨a, b, c, d, e, f⟩ := x
  unfold zval rightZ
  simp only
  have B := Lib.hid (alloc_below w (.cells #[.int .i64 a, .int .i64 b, .int .i64 c, .int .i64 d, .bool e, .int .i64 f] 45))
  have C0 := Lib.hid (fun W => ft_any a 1 16 W)
  generalize ft a (1) 16 = u0 at *
  have C1 := Lib.hid (fun W => tenth_any b W)
  generalize ft b (-1099511627776) 1099511627776 = u1 at *
  have C2 := Lib.hid (fun W => minutes_any c W)
  generalize ft c (0) 1048575 = u2 at *
  have C3 := Lib.hid (fun W => ft_any d 0 1048576 W)
  generalize ft d (0) 1048576 = u3 at *
  have C4 := Lib.hid (fun W => minutes_any f W)
  generalize ft f (0) 1048575 = u4 at *
  cases u0
  case false =>
    go_enter Try.func32, Try.ntmps32
    go_wp2_with fail
    refine (C0.out _).mono ?_
    rintro e w' ⟨rfl, rfl⟩
    go_wp2
    go_ret
    exact ⟨rfl, B.out⟩
  cases u1
  case false =>
    go_enter Try.func32, Try.ntmps32
    go_wp2_with fail
    refine (C0.out _).mono ?_
    rintro e w' ⟨rfl, rfl⟩
    go_wp2_with fail
    refine (C1.out _).mono ?_
    rintro e w' ⟨rfl, rfl⟩
    go_wp2
    go_ret
    exact ⟨rfl, B.out⟩
  cases u2
  case false =>
    go_enter Try.func32, Try.ntmps32
    go_wp2_with fail
    refine (C0.out _).mono ?_
    rintro e w' ⟨rfl, rfl⟩
    go_wp2_with fail
    refine (C1.out _).mono ?_
    rintro e w' ⟨rfl, rfl⟩
    go_wp2_with fail
    refine (C2.out _).mono ?_
    rintro e w' ⟨rfl, rfl⟩
    go_wp2
    go_ret
    exact ⟨rfl, B.out⟩
  cases u3
  case false =>
    go_enter Try.func32, Try.ntmps32
    go_wp2_with fail
    refine (C0.out _).mono ?_
    rintro e w' ⟨rfl, rfl⟩
    go_wp2_with fail
    refine (C1.out _).mono ?_
    rintro e w' ⟨rfl, rfl⟩
    go_wp2_with fail
    refine (C2.out _).mono ?_
    rintro e w' ⟨rfl, rfl⟩
    go_wp2_with fail
    refine (C3.out _).mono ?_
    rintro e w' ⟨rfl, rfl⟩
    go_wp2
    go_ret
    exact ⟨rfl, B.out⟩
  cases u4
  case false =>
    go_enter Try.func32, Try.ntmps32
    go_wp2_with fail
    refine (C0.out _).mono ?_
    rintro e w' ⟨rfl, rfl⟩
    go_wp2_with fail
    refine (C1.out _).mono ?_
    rintro e w' ⟨rfl, rfl⟩
    go_wp2_with fail
    refine (C2.out _).mono ?_
    rintro e w' ⟨rfl, rfl⟩
    go_wp2_with fail
    refine (C3.out _).mono ?_
    rintro e w' ⟨rfl, rfl⟩
    go_wp2_with fail
    refine (C4.out _).mono ?_
    rintro e w' ⟨rfl, rfl⟩
    go_wp2
    go_ret
    exact ⟨rfl, B.out⟩
  go_enter Try.func32, Try.ntmps32
  go_wp2_with fail
  refine (C0.out _).mono ?_
  rintro e w' ⟨rfl, rfl⟩
  go_wp2_with fail
  refine (C1.out _).mono ?_
  rintro e w' ⟨rfl, rfl⟩
  go_wp2_with fail
  refine (C2.out _).mono ?_
  rintro e w' ⟨rfl, rfl⟩
  go_wp2_with fail
  refine (C3.out _).mono ?_
  rintro e w' ⟨rfl, rfl⟩
  go_wp2_with fail
  refine (C4.out _).mono ?_
  rintro e w' ⟨rfl, rfl⟩
  go_wp2
  go_ret
  exact ⟨rfl, B.out⟩
set_option maxRecDepth 100000 in
set_option maxHeartbeats 2000000 in
theorem maybeP_any (x : Pd) (w : World) : Calls Try.prog 34 #[pval x] w fun e w' => e = .returned (.bool (rightP x)) ∧ Below w.heap.size w w' := by
  obtain ⟨a, b, c⟩ := x
  unfold pval rightP
  simp only
  have B := Lib.hid (alloc_below w (.cells #[.int .i64 a, .int .i64 b, .int .i64 c] 48))
  have C0 := Lib.hid (fun W => ft_any a 1 16 W)
  generalize ft a (1) 16 = u0 at *
  have C1 := Lib.hid (fun W => tenth_any b W)
  generalize ft b (-1099511627776) 1099511627776 = u1 at *
  have C2 := Lib.hid (fun W => ft_any c 0 4611686018427387904 W)
  generalize ft c (0) 4611686018427387904 = u2 at *
  cases u0
  case false =>
    go_enter Try.func34, Try.ntmps34
    go_wp2_with fail
    refine (C0.out _).mono ?_
    rintro e w' ⟨rfl, rfl⟩
    go_wp2
    go_ret
    exact ⟨rfl, B.out⟩
  cases u1
  case false =>
    go_enter Try.func34, Try.ntmps34
    go_wp2_with fail
    refine (C0.out _).mono ?_
    rintro e w' ⟨rfl, rfl⟩
    go_wp2_with fail
    refine (C1.out _).mono ?_
    rintro e w' ⟨rfl, rfl⟩
    go_wp2
    go_ret
    exact ⟨rfl, B.out⟩
  cases u2
  case false =>
    go_enter Try.func34, Try.ntmps34
    go_wp2_with fail
    refine (C0.out _).mono ?_
    rintro e w' ⟨rfl, rfl⟩
    go_wp2_with fail
    refine (C1.out _).mono ?_
    rintro e w' ⟨rfl, rfl⟩
    go_wp2_with fail
    refine (C2.out _).mono ?_
    rintro e w' ⟨rfl, rfl⟩
    go_wp2
    go_ret
    exact ⟨rfl, B.out⟩
  go_enter Try.func34, Try.ntmps34
  go_wp2_with fail
  refine (C0.out _).mono ?_
  rintro e w' ⟨rfl, rfl⟩
  go_wp2_with fail
  refine (C1.out _).mono ?_
  rintro e w' ⟨rfl, rfl⟩
  go_wp2_with fail
  refine (C2.out _).mono ?_
  rintro e w' ⟨rfl, rfl⟩
  go_wp2
  go_ret
  exact ⟨rfl, B.out⟩
end Ms
end Go.Proofs.Ytkfmkchonlajpaa

namespace Go.Proofs.Ytkfmkchonlajpaa
open Go.RowKit Go.Maps

namespace Ms
theorem infoTZ : (Try.prog.info? 45).map (fun i => (i.zero, i.size, i.bytes)) = some (some (.agg #[.int .i64 0, .int .i64 0, .int .i64 0, .int .i64 0, .bool false, .int .i64 0]), 6, 48) := by kernel_rfl
theorem tlookZ {w : World} {B : Nat} {mo : Option Nat} {S : List Zn} (ht : Tab Zf Zn.id w B mo S) {m : Int} (hm : In64 m) (W : World) (hW : Below w.heap.size w W) :
    (Instr.lookup 72 (.map mo) (.int .i64 m) true).run Try.prog W = .ok (.tuple #[zval ((findK Zn.id m S).getD zn0), .bool (findK Zn.id m S).isSome]) W := by
  rcases ht with ⟨rfl, rfl⟩ | ⟨b, D, rfl, _, hown, hM⟩
  · rw [Maps.look_nil true lawI Try.underlying72 (zeroZ W) (key_of hm)]
    rfl
  · exact look Try.underlying72 zn0 zeroZ hown hM hm W (hW.block b hown.lt)
set_option maxRecDepth 100000 in
set_option maxHeartbeats 4000000 in
/-- The one of a number. -/
theorem trowZ (B h : Nat) (mz mp : Option Nat) (S : List Zn) (m : Int) (w : World) (hl : Lies w h 79 #[.map mz, .map mp]) (ht : Tab Zf Zn.id w B mz S) (hm : In64 m) :
    Calls Try.prog 65 #[.pointer (some ⟨h, 0, none⟩), .int .i64 m] w fun e w' =>
      e = .returned (.tuple #[zval (getK (findK Zn.id m S) zn0).1, .int .i64 ((getK (findK Zn.id m S) zn0).2 : Nat)]) ∧ Below w.heap.size w w' := by
  have K := fun W hW => tlookZ ht hm W hW
  generalize findK Zn.id m S = o at *
  have B1 := Lib.hid (alloc_below w (.cells #[.int .i64 0, .int .i64 0, .int .i64 0, .int .i64 0, .bool false, .int .i64 0] 45))
  have L1 := Lib.hid (hl.alloc (.cells #[.int .i64 0, .int .i64 0, .int .i64 0, .int .i64 0, .bool false, .int .i64 0] 45))
  have X1 := Lib.hid (Lies.new w 45 #[.int .i64 0, .int .i64 0, .int .i64 0, .int .i64 0, .bool false, .int .i64 0])
  have HS : Hid (w.heap.size < (w.alloc (.cells #[.int .i64 0, .int .i64 0, .int .i64 0, .int .i64 0, .bool false, .int .i64 0] 45)).heap.size) := Lib.hid (by simp)
  obtain ⟨w1, hw1⟩ : ∃ w1, w.alloc (.cells #[.int .i64 0, .int .i64 0, .int .i64 0, .int .i64 0, .bool false, .int .i64 0] 45) = w1 := ⟨_, rfl⟩
  rw [hw1] at B1 L1 X1 HS
  have k1 := K w1 B1.out
  have l0 : w1.cell? ⟨h, 0, none⟩ = some (.map mz) := L1.out.cell 0
  have FC : ∀ ob i, (w1.alloc ob).cell? ⟨w.heap.size, i, none⟩ = w1.cell? ⟨w.heap.size, i, none⟩ := fun ob i => (alloc_below w1 ob).cell (p := ⟨w.heap.size, i, none⟩) HS.out
  have FG : ∀ ob i, (w1.alloc ob).frozen? ⟨w.heap.size, i, none⟩ = w1.frozen? ⟨w.heap.size, i, none⟩ := fun ob i => (alloc_below w1 ob).frozen (p := ⟨w.heap.size, i, none⟩) HS.out
  clear K ht hm hl
  have r0 : w1.cell? ⟨w.heap.size, 0, none⟩ = some (.int .i64 0) := X1.out.cell 0
  have g0 := X1.out.frozen 0
  have r1 : w1.cell? ⟨w.heap.size, 1, none⟩ = some (.int .i64 0) := X1.out.cell 1
  have g1 := X1.out.frozen 1
  have r2 : w1.cell? ⟨w.heap.size, 2, none⟩ = some (.int .i64 0) := X1.out.cell 2
  have g2 := X1.out.frozen 2
  have r3 : w1.cell? ⟨w.heap.size, 3, none⟩ = some (.int .i64 0) := X1.out.cell 3
  have g3 := X1.out.frozen 3
  have r4 : w1.cell? ⟨w.heap.size, 4, none⟩ = some (.bool false) := X1.out.cell 4
  have g4 := X1.out.frozen 4
  have r5 : w1.cell? ⟨w.heap.size, 5, none⟩ = some (.int .i64 0) := X1.out.cell 5
  have g5 := X1.out.frozen 5
  cases o with
  | none =>
    simp only [Option.getD_none, Option.isSome_none, zn0, zval] at k1
    go_enter Try.func65, Try.ntmps65
    go_wp2
    refine bodyPost_ret (v := .tuple #[zval zn0, .int .i64 5]) (by simp [results, Try.results65, go_sem, zval, zn0, r0, r1, r2, r3, r4, r5, FC]) rfl ⟨rfl, ?_⟩
    iterate 6 refine Below.setCell ?_ (show w.heap.size ≤ _ from Nat.le_refl _) _
    exact B1.out.alloc B1.out.size _
  | some y =>
    obtain ⟨a, b, c, d, e, f⟩ := y
    simp only [Option.getD_some, Option.isSome_some, zval] at k1
    go_enter Try.func65, Try.ntmps65
    go_wp2
    refine bodyPost_ret (v := .tuple #[zval ⟨a, b, c, d, e, f⟩, .int .i64 0]) (by simp [results, Try.results65, go_sem, zval, r0, r1, r2, r3, r4, r5, FC]) rfl ⟨rfl, ?_⟩
    iterate 6 refine Below.setCell ?_ (show w.heap.size ≤ _ from Nat.le_refl _) _
    exact B1.out.alloc B1.out.size _
end Ms
end Go.Proofs.Ytkfmkchonlajpaa

namespace Go.Proofs.Ytkfmkchonlajpaa
open Go.RowKit

namespace Ms
theorem own_floor2 {w : World} {B B' : Nat} {e : TypeId} {k n : Nat} {v : Value} {xs : List Value} (h : w.ownsRow B e k v n xs) (hb : B' ≤ B) : w.ownsRow B' e k v n xs := by
  refine ⟨h.1, ?_⟩
  rcases h.2 with h0 | ⟨g, cap, cur, e1, h1, h2⟩
  · exact .inl h0
  · exact .inr ⟨g, cap, cur, e1, Nat.le_trans hb h1, h2⟩
end Ms
end Go.Proofs.Ytkfmkchonlajpaa

namespace Go.Proofs.Ytkfmkchonlajpaa
open Go.RowKit

namespace Ms
theorem takesZ {l l2 : List Zn} {k : Nat} {x : Zn} (h : l.take k = l2.take k) (hx : l[k]? = some x) (hy : l2[k]? = some x) : l.take (k + 1) = l2.take (k + 1) := by
  rw [List.take_add_one, List.take_add_one, h, hx, hy]
theorem notsZ {l l2 : List Zn} {k : Nat} {x y : Zn} (hx : l[k]? = some x) (hy : l2[k]? = some y) (h : x ≠ y) : decide (l = l2) = false := by
  rw [decide_eq_false_iff_not]
  rintro rfl
  rw [hx] at hy
  exact h (Option.some.inj hy)
end Ms
end Go.Proofs.Ytkfmkchonlajpaa

namespace Go.Proofs.Ytkfmkchonlajpaa
open Go.RowKit

namespace Lo
open Classical in
theorem move_none {Z : List Ms.Zn} {s : Stk} {id zone now : Int} (h : at_ id s.1 = none ∨ Ms.findK Ms.Zn.id zone Z = none) : moveS Z s id zone now = (5, s) := by
  unfold moveS
  rcases h with h | h
  · rw [h]
  · rw [h]
    cases at_ id s.1 <;> rfl
open Classical in
theorem move_some {Z : List Ms.Zn} {s : Stk} {id zone now : Int} {i : Nat} {x : Lt} {z : Ms.Zn} (h : at_ id s.1 = some i) (hx : s.1[i]? = some x) (hz : Ms.findK Ms.Zn.id zone Z = some z) :
    moveS Z s id zone now = if inL x = 0 then (8, s) else if inL x = zone then (0, s) else if z.room < loadL s.1 zone + x.units then (4, s)
      else if Sy.May x.stays now ∧ 1 ≤ zone then (0, (s.1.set i { x with stays := Sy.goS (Sy.untilS x.stays now) zone now }, s.2)) else (1, s) := by
  unfold moveS
  rw [h, hz]
  simp only [hx]
end Lo
end Go.Proofs.Ytkfmkchonlajpaa

namespace Go.Proofs.Ytkfmkchonlajpaa
open Go.RowKit Go.Maps

namespace Lo
theorem infoL9 : (Try.prog.info? 32).map (fun i => (i.zero, i.size, i.bytes)) = some (some (.agg #[.int .i64 0, .int .i64 0, .int .i64 0, .int .i64 0, .int .i64 0, .int .i64 0, .int .i64 0, .slice none 0 0]), 8, 80) := by kernel_rfl
theorem own_empty (w : World) (B : Nat) (hB : B ≤ w.heap.size) (t : TypeId) (k : Nat) : (w.alloc (.cells #[] t)).ownsRow B t k (.slice (some ⟨w.heap.size, 0, none⟩) 0 0) 0 [] :=
  ⟨by simp, .inr ⟨w.heap.size, 0, #[], rfl, hB, Lies.new w t #[], Nat.le_refl _, Nat.zero_le _, by simp, by simp⟩⟩
/-- One more lot, behind the others; its stays lie at a place of their own. -/
theorem rs_app2 {w wr w2 : World} {B g gg cap : Nat} {v : Value} {given : Int} {l : List Lv} {y : Lv} (hb : Turn (RFoot g v) w wr) (h : RS wr B g v given l)
    (hown : w2.ownsRow B 32 8 (.slice (some ⟨gg, 0, none⟩) (l.length + 1) cap) (l.length + 1) (l.flatMap lcells ++ lcells y))
    (T1 : Turn (fun k => v.ownBlock = some k) wr w2) (hat : v.ownBlock = some gg ∨ wr.heap.size ≤ gg)
    (fb : Lies w2 g 28 #[v, .int .i64 given]) (hy : St w2 y) (hyk : ∀ k, Bk y k → k ≠ g ∧ gg ≠ k) {K : Nat → Prop} (hK : ∀ k, Bks l k → K k) (hyK : ∀ k, Bk y k → K k ∨ w.heap.size ≤ k) :
    RDone w B g v K given (l ++ [y]) (w2.setCell ⟨g, 0, none⟩ (.slice (some ⟨gg, 0, none⟩) (l.length + 1) cap)) := by
  have hne : gg ≠ g := fun e => own_blk_ne hown fb (by decide) (by rw [e]; rfl)
  have T2 : Turn (fun k => k = g) w2 (w2.setCell ⟨g, 0, none⟩ (.slice (some ⟨gg, 0, none⟩) (l.length + 1) cap)) := (Turn.refl (fun k => k = g) w2).setCell (p := ⟨g, 0, none⟩) (.inl rfl) _
  have hs := hb.size
  have hapn : ∀ z ∈ l, ∀ k, Bk z k → gg ≠ k := fun z hz k hk e => by
    rcases hat with hat | hat
    · exact (h.apart z hz k hk).2 (by rw [hat, e])
    · have := (h.stays z hz).lt hk
      omega
  refine ⟨.slice (some ⟨gg, 0, none⟩) (l.length + 1) cap, ⟨h.base, ?_, ?_, fun z hz => ?_, fun z hz k hk => ?_⟩, ?_, fun k hk => ?_, fun k hk => ?_⟩
  · simpa using fb.set_ 0 (.slice (some ⟨gg, 0, none⟩) (l.length + 1) cap)
  · rw [List.length_append, ← flat_snoc]
    exact own_turn hown T2 (fun k hk e => by
      subst e
      exact hne (by simpa [Value.ownBlock] using hk))
  · rcases List.mem_append.1 hz with hz | hz
    · exact ((h.stays z hz).turn T1 (fun k hk e => (h.apart z hz k hk).2 e)).turn T2 (fun k hk e => (h.apart z hz k hk).1 e)
    · rw [List.mem_singleton.1 hz]
      exact hy.turn T2 (fun k hk e => (hyk k hk).1 e)
  · rcases List.mem_append.1 hz with hz | hz
    · refine ⟨(h.apart z hz k hk).1, fun e => hapn z hz k hk ?_⟩
      simpa [Value.ownBlock] using e
    · rw [List.mem_singleton.1 hz] at hk
      refine ⟨(hyk k hk).1, fun e => (hyk k hk).2 ?_⟩
      simpa [Value.ownBlock] using e
  · refine (hb.trans (T1.mono (fun i _ hi => .inr hi)) (fun i hi => .inl hi)).trans (S' := fun k => k = g) T2 (fun i hi => .inl (.inl hi))
  · have e : gg = k := by simpa [Value.ownBlock] using hk
    subst e
    rcases hat with hat | hat
    · exact .inl hat
    · exact .inr (by omega)
  · rcases bks_app hk with hk | hk
    · exact .inl (hK k hk)
    · exact hyK k hk
theorem rw_news {α : Type} {k : Nat} {enc : α → List Value} (hk : ∀ x, (enc x).length = k) (h0 : 0 < k) {W : World} {b o n : Nat} {l : List α} (h : Rw k enc W (some ⟨b, o, none⟩) n l) : ∀ j u, (l.flatMap enc)[j]? = some u → W.cell? (Addr.add ⟨b, o, none⟩ j) = some u := by
  intro j u hj
  have hlt := (List.getElem?_eq_some_iff.1 hj).1
  rw [flat_len hk] at hlt
  have hl : 0 < l.length := by
    rcases Nat.eq_zero_or_pos l.length with e | e
    · rw [e] at hlt
      simp at hlt
    · exact e
  obtain ⟨b2, o2, e, hc⟩ := h.2 (by rw [← h.1]; exact hl)
  injection e with e
  injection e with e1 e2
  subst e1 e2
  have hd : j / k < l.length := Nat.div_lt_of_lt_mul (by rw [Nat.mul_comm]; exact hlt)
  have hm : j % k < k := Nat.mod_lt _ h0
  have hx : l[j / k]? = some l[j / k] := List.getElem?_eq_getElem hd
  have e1 := hc (j / k) _ hx (j % k) hm
  have e2 := flat_at hk l (j / k) (j % k) _ hx hm
  have e3 : j / k * k + j % k = j := by rw [Nat.mul_comm]; exact Nat.div_add_mod j k
  rw [e3, hj] at e2
  rw [Nat.add_assoc, e3, ← e2] at e1
  rw [add_none]
  exact e1
theorem scells_one (S : List Sy.Sy) : ∀ u ∈ S.flatMap Sy.scells, u.oneCell' = true := by
  intro u hu
  obtain ⟨x, _, hx⟩ := List.mem_flatMap.1 hu
  simp [Sy.scells] at hx
  rcases hx with rfl | rfl | rfl <;> rfl
theorem split_none {s : Stk} {id units : Int} (h : at_ id s.1 = none) : splitS s id units = ((0, 5), s) := by unfold splitS; rw [h]
theorem split_some {s : Stk} {id units : Int} {i : Nat} {x : Lt} (h : at_ id s.1 = some i) (hx : s.1[i]? = some x) :
    splitS s id units = if units < 1 ∨ x.units ≤ units then ((0, 1), s) else if inL x = 0 then ((0, 8), s) else if 256 ≤ s.2 then ((0, 4), s)
      else ((s.2 + 1, 0), (s.1.set i { x with units := x.units - units } ++ [{ x with id := s.2 + 1, units := units }], s.2 + 1)) := by
  unfold splitS
  rw [h]
  simp only [hx]
theorem in_some {x : Lt} (h : inL x ≠ 0) : 0 < x.stays.length := by
  unfold inL at h
  cases hs : x.stays with
  | nil => rw [hs] at h; exact absurd rfl h
  | cons a l => simp
theorem split_end {w w8 w2 : World} {B g b n d i gg cap m c2 : Nat} {given units : Int} {l : List Lv} {y : Lv} {q : Option Addr} {ob : Obj} (hb : Turn (RFoot g (.slice (some ⟨b, 0, none⟩) n d)) w w8) (h : RS w8 B g (.slice (some ⟨b, 0, none⟩) n d) (given + 1) (l.set i { y with x := { y.x with units := y.x.units - units } })) (hn : l.length = n)
    (hown : w2.ownsRow B 32 8 (.slice (some ⟨gg, 0, none⟩) (n + 1) cap) (n + 1) ((l.set i { y with x := { y.x with units := y.x.units - units } }).flatMap lcells ++ lcells ⟨{ y.x with id := given + 1, units := units }, q, m, c2⟩))
    (hg : (w8.alloc ob).drew.grownBy w2 (some b)) (hat : gg = b ∨ gg = w8.heap.size + 1)
    (fb : Lies w2 g 28 #[.slice (some ⟨b, 0, none⟩) n d, .int .i64 (given + 1)]) (hr : Rw 3 Sy.scells w8 q m y.x.stays) (hc : m ≤ c2) (hk : ∀ k, (0 < m ∧ ∃ a, q = some a ∧ a.block = k) → k ≠ g ∧ k ≠ b ∧ k < w8.heap.size ∧ w.heap.size ≤ k) (hyl : l[i]? = some y) :
    RAc2 w B g (.slice (some ⟨b, 0, none⟩) n d) (Bks l) ((lts l).set i { y.x with units := y.x.units - units } ++ [{ y.x with id := given + 1, units := units }], given + 1) (w2.setCell ⟨g, 0, none⟩ (.slice (some ⟨gg, 0, none⟩) (n + 1) cap)) := by
  have hlen : (l.set i { y with x := { y.x with units := y.x.units - units } }).length = n := by rw [List.length_set, hn]
  have T1 : Turn (fun k => (Value.slice (some ⟨b, 0, none⟩) n d).ownBlock = some k) w8 w2 := (((Turn.refl _ w8).alloc ob).drew).grown hg (fun k hk => .inl hk)
  have hy : St w2 ⟨{ y.x with id := given + 1, units := units }, q, m, c2⟩ := St.turn (y := ⟨{ y.x with id := given + 1, units := units }, q, m, c2⟩) (w := w8) ⟨hr, hc⟩ T1 (fun k hk' e => by
    have e2 : b = k := by simpa [Value.ownBlock] using e
    exact (hk k hk').2.1 e2.symm)
  have R := rs_app2 (y := ⟨{ y.x with id := given + 1, units := units }, q, m, c2⟩) (gg := gg) (cap := cap) hb h (by rw [hlen]; exact hown) T1 (by
    rcases hat with rfl | rfl
    · exact .inl rfl
    · exact .inr (by omega)) fb hy (fun k hk' => ⟨(hk k hk').1, fun e => by
      have h1 := hk k hk'
      rcases hat with hat | hat
      · exact h1.2.1 (by omega)
      · omega⟩) (K := Bks l) (fun k hk0 => bks_same (y' := { y with x := { y.x with units := y.x.units - units } }) hyl (fun _ hh => hh) hk0) (fun k hk' => .inr (hk k hk').2.2.2)
  rw [hlen] at R
  exact ⟨_, by rw [lts, List.map_append]; exact congrArg (· ++ _) lts_set, R⟩
end Lo
end Go.Proofs.Ytkfmkchonlajpaa

namespace Go.Proofs.Ytkfmkchonlajpaa
open Go.RowKit Go.Maps

/-- An append at a step of a region that draws its order, onto a row of the call's own, of none or more. -/
theorem step_append_at {P : Program} {w : World} {ops : Array Oper} {o : Oper} {a : Act} {K : Act → World → Prop} {Q : Exit → Act → World → Prop} {E : Prop} (hgd : o.guard = none) (s x : Operand) (t : TypeId)
    (ho : o.op = .call { callee := .builtin .append, args := #[s, x], argTypes := #[t, t] })
    (base : Nat) (e : TypeId) (i : TypeInfo) (z : Value) (size bytes : Nat) (ht : P.underlying t = some (.slice e)) (hi : P.info? e = some i) (hz : i.zero = some z)
    (hsize : i.size = size) (hby : i.bytes = bytes) (hzs : z.cells.size = size) (hsz : 0 < size)
    (v : Value) (n : Nat) (xs : List Value) (hs : a.eval s = v) (hown : w.ownsRow base e size v n xs)
    (ad : Addr) (m c : Nat) (news : List Value) (hx : a.eval x = .slice (some ad) m c) (hl : news.length = m * size) (hnews : ∀ j u, news[j]? = some u → w.cell? (ad.add j) = some u) (h1 : ∀ u ∈ news, u.oneCell' = true)
    (h63 : n + m ≤ maxLen) (hbytes : (n + m) * bytes ≤ 140737488355328) (hbase : base ≤ w.heap.size)
    (h : ∀ q d w', w'.ownsRow base e size (.slice q (n + m) d) (n + m) (xs ++ news) → w.grownBy w' v.ownBlock → ((Value.slice q (n + m) d).ownBlock = v.ownBlock ∨ (Value.slice q (n + m) d).ownBlock = some w.heap.size) → K (a.put o.dst (.slice q (n + m) d)) w') :
    if Region.wanted o (yielded ops a.tmps) = true then Oper.wp P o a w K Q else E := by
  rw [if_pos (by simp [Region.wanted, hgd])]
  obtain ⟨v', w', hr, h2, h3, _, h5⟩ := run_append_own_at (P := P) w base t o.type e i z size bytes ht hi hz hsize hby hzs hsz v n xs hown ad m c news hl hnews h1 h63 hbytes hbase
  obtain ⟨q, d, rfl⟩ := own_slice h2
  unfold Oper.wp execOp
  simp only [ho, resolve, invoke, builtin, Sem.run_bind, Sem.run_pure, Result.andThen_ok, List.map_toArray, List.map_cons, List.map_nil, hs, hx, hr]
  exact h q d w' h2 h3 h5
namespace Lo
theorem merge_none {s : Stk} {into frm : Int} (h : at_ into s.1 = none ∨ at_ frm s.1 = none) : mergeS s into frm = (5, s) := by
  unfold mergeS
  rcases h with h | h
  · rw [h]
  · rw [h]
    cases at_ into s.1 <;> rfl
theorem merge_some {s : Stk} {into frm : Int} {i k : Nat} {x y : Lt} (h : at_ into s.1 = some i) (hk : at_ frm s.1 = some k) (hx : s.1[i]? = some x) (hy : s.1[k]? = some y) :
    mergeS s into frm = if i = k then (1, s) else if inL x = 0 then (8, s) else if alikeB x y = false then (12, s)
      else (0, ((s.1.set i { x with units := x.units + y.units }).eraseIdx k, s.2)) := by
  unfold mergeS
  rw [h, hk]
  simp only [hx, hy]
/-- Other lots, at a place of their own. -/
theorem rs_new {w wr w2 : World} {B g : Nat} {v v2 : Value} {given : Int} {l l2 : List Lv} (hb : Turn (RFoot g v) w wr) (h : RS wr B g v given l) (ho : w2.ownsRow wr.heap.size 32 8 v2 l2.length (l2.flatMap lcells)) (hB : Below wr.heap.size wr w2) (hsub : ∀ y ∈ l2, y ∈ l) {K : Nat → Prop} (hK : ∀ k, Bks l k → K k) :
    RDone w B g v K given l2 (w2.setCell ⟨g, 0, none⟩ v2) := by
  have h2 := h.keep hB
  have hgl := h.blk.lt
  have T2 : Turn (fun k => k = g) w2 (w2.setCell ⟨g, 0, none⟩ v2) := (Turn.refl (fun k => k = g) w2).setCell (p := ⟨g, 0, none⟩) (.inl rfl) _
  have hs := hb.size
  refine ⟨v2, ⟨h.base, by simpa using h2.blk.set_ 0 v2, own_turn (Sy.own_low ho (Nat.le_trans h.base (Nat.le_of_lt hgl))) T2 (fun k hk e => by have := (own_lt ho hk).1; omega), fun z hz => (h2.stays z (hsub z hz)).turn T2 (fun k hk e => (h.apart z (hsub z hz) k hk).1 e), fun z hz k hk => ⟨(h.apart z (hsub z hz) k hk).1, fun e => by
    have h3 := (own_lt ho e).1
    have h4 := (h.stays z (hsub z hz)).lt hk
    omega⟩⟩, (hb.trans (S' := fun _ => False) (Turn.of_below hB) (fun _ hh => hh.elim)).trans (S' := fun k => k = g) T2 (fun i hi => .inl (.inl hi)), fun k hk => .inr (by have := (own_lt ho hk).1; omega), fun k ⟨y, hy, hk⟩ => .inl (hK k ⟨y, hsub y hy, hk⟩)⟩
theorem lcells_one (S : List Lv) : ∀ u ∈ S.flatMap lcells, u.oneCell' = true := by
  intro u hu
  obtain ⟨x, _, hx⟩ := List.mem_flatMap.1 hu
  simp [lcells] at hx
  rcases hx with rfl | rfl | rfl | rfl | rfl | rfl | rfl | rfl <;> rfl
theorem rw_drop {α : Type} {k : Nat} {enc : α → List Value} {w : World} {b o n : Nat} {l : List α} (h : Rw k enc w (some ⟨b, o, none⟩) n l) (m : Nat) (hm : m ≤ n) : Rw k enc w (some ⟨b, o + m * k, none⟩) (n - m) (l.drop m) := by
  refine ⟨by rw [List.length_drop, h.1], fun hp => ⟨b, o + m * k, rfl, fun j x hj i hi => ?_⟩⟩
  obtain ⟨b2, o2, e, hc⟩ := h.2 (by omega)
  injection e with e
  injection e with e1 e2
  subst e1 e2
  rw [List.getElem?_drop] at hj
  rw [← hc (m + j) x hj i hi, Nat.add_mul]
  congr 2
  omega
theorem erase_parts {α : Type} (l : List α) (k : Nat) : l.eraseIdx k = l.take k ++ l.drop (k + 1) := List.eraseIdx_eq_take_drop_succ ..
theorem lts_erase {l : List Lv} {k : Nat} : lts (l.eraseIdx k) = (lts l).eraseIdx k := by
  unfold lts
  rw [erase_parts, erase_parts, List.map_append, List.map_take, List.map_drop]
theorem own_erase {w : World} {B n k : Nat} {v : Value} {L : List Lv} (hL : L.length = n) (hk : k < n) (h : w.ownsRow B 32 8 v (k + (n - (k + 1))) ((L.take k).flatMap lcells ++ (L.drop (k + 1)).flatMap lcells)) :
    w.ownsRow B 32 8 v (L.eraseIdx k).length ((L.eraseIdx k).flatMap lcells) := by
  have h1 : (L.eraseIdx k).length = k + (n - (k + 1)) := by rw [erase_parts, List.length_append, List.length_take, List.length_drop, hL]; omega
  rw [h1, erase_parts, List.flatMap_append]
  exact h
theorem own_erase0 {w : World} {B n k : Nat} {v : Value} {L : List Lv} (hL : L.length = n) (hk : n = k + 1) (h : w.ownsRow B 32 8 v k ((L.take k).flatMap lcells)) :
    w.ownsRow B 32 8 v (L.eraseIdx k).length ((L.eraseIdx k).flatMap lcells) := by
  have h1 : (L.eraseIdx k).length = k := by rw [erase_parts, List.length_append, List.length_take, List.length_drop, hL]; omega
  rw [h1, erase_parts, List.drop_of_length_le (by omega), List.append_nil]
  exact h
end Lo
end Go.Proofs.Ytkfmkchonlajpaa
