/- Walks over slices.Insert and slices.Clone at readings. Conditions: the call owns the row; what is inserted lies in another block. -/
import Derived.Test.YtfmnbmjfkplieaaSl
namespace Go.Proofs.Ytfmnbmjfkplieaa
open Go.RowKit

namespace Rd
theorem info : (Try.prog.info? 37).map (fun i => (i.zero, i.size, i.bytes)) = some (some (.agg #[.int .i64 0, .int .i64 0, .int .i64 0]), 3, 24) := by kernel_rfl
theorem size : (Try.prog.info? 37).map (·.size) = some 3 := by kernel_rfl
section
variable {α : Type} {enc : α → List Value}
set_option maxRecDepth 100000 in
set_option maxHeartbeats 4000000 in
/-- slices.Insert, of one thing, behind all. -/
theorem ins_end (hk : ∀ x, (enc x).length = 3) (h1 : ∀ x, ∀ u ∈ enc x, u.oneCell' = true) (B : Nat) (v : Value) (S : List α) (x : α) (bv : Nat) (w : World) (h : w.ownsRow B 37 3 v S.length (S.flatMap enc)) (hB : B ≤ w.heap.size) (hL : S.length ≤ 1000000) (hv : Lies w bv 37 (enc x).toArray) :
    Calls Try.prog 43 #[v, .int .i64 (S.length : Int), .slice (some ⟨bv, 0, none⟩) 1 1] w fun e w' =>
      ∃ v', e = .returned v' ∧ w'.ownsRow B 37 3 v' (S.length + 1) ((S ++ [x]).flatMap enc) ∧ Turn (fun k => v.ownBlock = some k) w w' ∧ (v'.ownBlock = v.ownBlock ∨ v'.ownBlock = some w.heap.size) := by
  obtain ⟨i0, hi, hz0, hz1, hz2⟩ := info_parts info
  obtain ⟨v', w', hr, h2, h3, _, h5⟩ := run_append_own_at (P := Try.prog) w B 23 23 37 i0 _ 3 24 Try.underlying23 hi hz0 hz1 hz2 rfl (by decide) v S.length (S.flatMap enc) h ⟨bv, 0, none⟩ 1 1 (enc x) (by rw [hk]) (fun j u hj => by rw [add_none, Nat.zero_add, hv.cell j]; simpa using hj) (h1 x) (by unfold maxLen; omega) (by omega) hB
  rw [flat_snoc] at h2
  have H2 := Lib.hid h2
  have H3 := Lib.hid (turn_of_grown h3)
  have H5 := Lib.hid h5
  obtain ⟨q, d, rfl⟩ := own_slice h
  have hd : S.length ≤ d ∧ d ≤ 9223372036854775807 := by
    rcases h.2 with ⟨h0, h00⟩ | ⟨g, cap, cur, h0, _, _, hc, hm, _⟩
    · injection h0 with _ _ h0
      omega
    · injection h0 with _ _ h0
      unfold maxLen at hm
      omega
  obtain ⟨hd1, hd2⟩ := hd
  clear h2 h3 h5 hi hz0 hz1 hz2 h hB hv
  have hl : (S.length : Int) ≤ 1000000 := by omega
  by_cases hcap : d = S.length
  all_goals
    go_enter Try.func43, Try.ntmps43
    go_wp2_with (at_builtin; refine Lib.wpList_append_run _ rfl _ _ _ _ rfl _ _ rfl rfl _ _ hr ?_)
    go_ret
    exact ⟨v', rfl, H2.out, H3.out, H5.out⟩
/-- What slices.overlaps tells of two blocks. -/
theorem apart (w : World) (a b : Addr) (la ca lb cb : Nat) (hne : a.block ≠ b.block) (ta tb : TypeId) (ca' cb' : Array Value) (ha : Lies w a.block ta ca') (hb : Lies w b.block tb cb') (hb0 : cb'.size ≠ 0) (ha0 : a = ⟨a.block, 0, none⟩) :
    (callFunc 55 #[.slice (some a) la ca, .slice (some b) lb cb]).run Try.prog w = .ok (.value (.bool false)) w := by
  have hfr : ∀ i, w.frozen? ⟨a.block, i, none⟩ = false := fun i => ha.frozen i
  rw [run_callFunc_extern Try.func55 (by kernel_rfl) (by kernel_rfl) (by kernel_rfl) (e := Extern.SlicesOverlaps.overlaps #[23, 23] #[4]) (by kernel_rfl),
    Lib.run_overlaps_apart w 23 4 37 Try.underlying23 3 Try.sizeOf37 a b la ca lb cb hne ta tb ca'.size cb'.size (by simp [World.shape?, show w.heap[a.block]? = _ from ha]) (by simp [World.shape?, show w.heap[b.block]? = _ from hb]) hb0 (by rw [ha0]; exact hfr 0) (hfr _)]
  rfl
set_option maxRecDepth 100000 in
set_option maxHeartbeats 4000000 in
/-- slices.Insert, of one thing, within, where there is room. -/
theorem ins_room (hk : ∀ x, (enc x).length = 3) (h1 : ∀ x, ∀ u ∈ enc x, u.oneCell' = true) (B g c : Nat) (S : List α) (i : Nat) (x : α) (bv : Nat) (w : World) (h : w.ownsRow B 37 3 (.slice (some ⟨g, 0, none⟩) S.length c) S.length (S.flatMap enc)) (hL : S.length ≤ 1000000) (hv : Lies w bv 37 (enc x).toArray) (hne : bv ≠ g) (hi : i < S.length) (hroom : S.length < c) :
    Calls Try.prog 43 #[.slice (some ⟨g, 0, none⟩) S.length c, .int .i64 (i : Int), .slice (some ⟨bv, 0, none⟩) 1 1] w fun e w' =>
      e = .returned (.slice (some ⟨g, 0, none⟩) (S.length + 1) c) ∧ w'.ownsRow B 37 3 (.slice (some ⟨g, 0, none⟩) (S.length + 1) c) (S.length + 1) ((S.take i ++ x :: S.drop i).flatMap enc) ∧ Turn (fun k => k = g) w w' := by
  obtain ⟨cur, HG, hB, hnc, hc63, hcs, htake, _⟩ := lies_own h
  obtain ⟨hsp, hlA, hlC⟩ := flat_split hk S i (Nat.le_of_lt hi)
  have hxl := hk x
  have hcur : cur.toList = (S.take i).flatMap enc ++ (S.drop i).flatMap enc ++ cur.toList.drop (S.length * 3) := by rw [← hsp, ← htake, List.take_append_drop]
  have h1A : ∀ u ∈ (S.take i).flatMap enc, u.oneCell' = true := fun u hu => by
    obtain ⟨y, _, hu⟩ := List.mem_flatMap.1 hu
    exact h1 y u hu
  have h1C : ∀ u ∈ (S.drop i).flatMap enc, u.oneCell' = true := fun u hu => by
    obtain ⟨y, _, hu⟩ := List.mem_flatMap.1 hu
    exact h1 y u hu
  have hins := flat_ins (enc := enc) S i x
  generalize (S.take i).flatMap enc = A at *
  generalize (S.drop i).flatMap enc = C at *
  have hD : (cur.toList.drop (S.length * 3)).length = (c - S.length) * 3 := by
    rw [List.length_drop, Array.length_toList, hcs, Nat.sub_mul]
  have hsh := spl_shift (A := A) (C := C) (R := enc x) hcur (by rw [hxl, hD]; omega)
  have hat : ∀ j, cur[j]? = cur.toList[j]? := fun j => by rw [Array.getElem?_toList]
  have HC : ∀ j u, C[j]? = some u → w.cell? ⟨g, i * 3 + j, none⟩ = some u := fun j u hj => by
    rw [HG.cell, hat, hcur, List.append_assoc, List.getElem?_append_right (by omega), hlA, List.getElem?_append_left (by have := (List.getElem?_eq_some_iff.1 hj).1; omega), show i * 3 + j - i * 3 = j by omega]
    exact hj
  have hov : ∀ o lb cb, (callFunc 55 #[.slice (some ⟨bv, 0, none⟩) 1 1, .slice (some ⟨g, o, none⟩) lb cb]).run Try.prog w = .ok (.value (.bool false)) w := fun o lb cb =>
    apart w ⟨bv, 0, none⟩ ⟨g, o, none⟩ 1 1 lb cb hne _ _ _ _ hv HG (by omega) rfl
  have hG1 : Lies w.drew g 37 cur := HG
  have hcp1 : ∀ ty dc sc, (Builtin.copy_ #[23, 23] ty #[.slice (some ⟨g, (i + 1) * 3, none⟩) (S.length - i) dc, .slice (some ⟨g, i * 3, none⟩) (S.length + 1 - i) sc]).run Try.prog w.drew = .ok (goInt (Nat.min (S.length + 1 - i) (S.length - i))) (w.drew.setRow g (spl cur ((i + 1) * 3) C)) := fun ty dc sc =>
    run_copy_lies w.drew 23 23 ty 37 3 g ((i + 1) * 3) _ dc ⟨g, i * 3, none⟩ _ sc cur _ C Try.underlying23 size hG1
      (by rw [hlC]; congr 1; simp only [Nat.min_def]; split <;> omega) (fun j u hj => by rw [add_none]; exact HC j u hj) (by rw [hlC, hcs]; omega) h1C
  obtain ⟨W1, hW1⟩ : ∃ W1, w.drew.setRow g (spl cur ((i + 1) * 3) C) = W1 := ⟨_, rfl⟩
  have hG2 : Lies W1 g 37 (spl cur ((i + 1) * 3) C) := by rw [← hW1]; exact lies_setRow hG1 _
  have hT1 : Turn (fun k => k = g) w W1 := by rw [← hW1]; exact turn_setRow (S := fun k => k = g) (Turn.refl _ w).drew (.inl rfl) _
  have hV1 : Lies W1 bv 37 (enc x).toArray := hv.turn hT1 hne
  have hss : (spl cur ((i + 1) * 3) C).size = cur.size := spl_size _ _ _ (by rw [hlC, hcs]; omega)
  have hcp2 : ∀ ty dc, (Builtin.copy_ #[23, 23] ty #[.slice (some ⟨g, i * 3, none⟩) (S.length + 1 - i) dc, .slice (some ⟨bv, 0, none⟩) 1 1]).run Try.prog W1 = .ok (goInt (Nat.min 1 (S.length + 1 - i))) (W1.setRow g (spl (spl cur ((i + 1) * 3) C) (i * 3) (enc x))) := fun ty dc =>
    run_copy_lies W1 23 23 ty 37 3 g (i * 3) _ dc ⟨bv, 0, none⟩ 1 1 _ _ (enc x) Try.underlying23 size hG2
      (by rw [hxl]; simp only [Nat.min_def]; split <;> omega) (fun j u hj => by rw [add_none, Nat.zero_add, hV1.cell]; simpa using hj) (by rw [hxl, hss, hcs]; omega) (h1 x)
  rw [hW1] at hcp1
  have HT2 := Lib.hid (turn_setRow (g := g) hT1 (.inl rfl) (spl (spl cur ((i + 1) * 3) C) (i * 3) (enc x)))
  have HO2 := Lib.hid (own_lies (B := B) (n := S.length + 1) (cap := c) (k := 3) (lies_setRow hG2 (spl (spl cur ((i + 1) * 3) C) (i * 3) (enc x))) hB (by omega) hc63 (by rw [spl_size _ _ _ (by rw [hxl, hss, hcs]; omega), hss, hcs]) (xs := (S.take i ++ x :: S.drop i).flatMap enc) (by
    rw [hins, ← hsh]
    rw [hlA, hxl, hlC]
    have e1 : i * 3 + 3 = (i + 1) * 3 := by omega
    have e2 : i * 3 + 3 + (S.length - i) * 3 = (S.length + 1) * 3 := by omega
    rw [e2, e1]))
  generalize (S.take i ++ x :: S.drop i).flatMap enc = Y at *
  generalize (spl (spl cur ((i + 1) * 3) C) (i * 3) (enc x)) = cur2 at *
  clear h hsp htake hv hcur hD
  generalize S.length = n at *
  have z1 : ((i : Int) == (n : Int)) = false := by simp; omega
  have z2 : ¬ ((i : Int) = (n : Int)) := by omega
  have z3 : (n : Int) + 1 ≤ (c : Int) := by omega
  have z4 : (i : Int) ≤ (n : Int) := by omega
  have z5 : ¬ (c = i) := by omega
  have z6 : ¬ (c = i + 1) := by omega
  have z7 : (i : Int) ≤ (n : Int) + 1 := by omega
  have z8 : (i : Int) + 1 ≤ (n : Int) + 1 := by omega
  have z9 : (n : Int) ≤ 1000000 := by omega
  have z10 : (c : Int) ≤ 9223372036854775807 := by omega
  clear hsh hat HC hG1 hG2 hT1 hV1 hss hins h1A h1C hxl hlA hlC hcs HG hk h1
  go_enter Try.func43, Try.ntmps43
  go_wp2_with (simp only [hov])
  have w1 : IntKind.i64.wrap ((i : Int) + 1) = (i : Int) + 1 := IntWalk.i64_in _ (by omega)
  have w2 : (0 : Int) ≤ (i : Int) + 1 := by omega
  have w3 : ((i : Int) + 1).toNat = i + 1 := by omega
  go_region_law
    ((refine step_copy_runI (by rfl) (.tmp 73) (.tmp 76) 23 23 (by rfl) (.slice (some ⟨g, (i + 1) * 3, none⟩) (n - i) (c - (i + 1))) (.slice (some ⟨g, i * 3, none⟩) (n + 1 - i) (c - i)) (by simp [Act.eval, Act.put]) (by simp [Act.eval, Act.put]) (hcp1 _ _ _) ?_))
  all_goals
    clear w1 w2 w3
    go_wp2_with (at_builtin; refine wpList_copy_runI _ rfl _ _ 23 23 rfl _ _ rfl rfl (hcp2 _ _) ?_)
    go_ret
    exact ⟨rfl, HO2.out, HT2.out⟩
set_option maxRecDepth 100000 in
set_option maxHeartbeats 4000000 in
/-- slices.Insert, of one thing, within, where there is no room. -/
theorem ins_grow (hk : ∀ x, (enc x).length = 3) (h1 : ∀ x, ∀ u ∈ enc x, u.oneCell' = true) (B g c : Nat) (S : List α) (i : Nat) (x : α) (bv : Nat) (w : World) (h : w.ownsRow B 37 3 (.slice (some ⟨g, 0, none⟩) S.length c) S.length (S.flatMap enc)) (hL : S.length ≤ 1000000) (hv : Lies w bv 37 (enc x).toArray) (hBw : B ≤ w.heap.size) (hi : i < S.length) (hroom : ¬ S.length < c) :
    Calls Try.prog 43 #[.slice (some ⟨g, 0, none⟩) S.length c, .int .i64 (i : Int), .slice (some ⟨bv, 0, none⟩) 1 1] w fun e w' =>
      ∃ d, e = .returned (.slice (some ⟨w.heap.size, 0, none⟩) (S.length + 1) d) ∧ w'.ownsRow B 37 3 (.slice (some ⟨w.heap.size, 0, none⟩) (S.length + 1) d) (S.length + 1) ((S.take i ++ x :: S.drop i).flatMap enc) ∧ Turn (fun k => k = g) w w' := by
  obtain ⟨cur, HG, hB, hnc, hc63, hcs, htake, _⟩ := lies_own h
  obtain ⟨hsp, hlA, hlC⟩ := flat_split hk S i (Nat.le_of_lt hi)
  have hxl := hk x
  have hcur : cur.toList = (S.take i).flatMap enc ++ (S.drop i).flatMap enc ++ cur.toList.drop (S.length * 3) := by rw [← hsp, ← htake, List.take_append_drop]
  have h1A : ∀ u ∈ (S.take i).flatMap enc, u.oneCell' = true := fun u hu => by
    obtain ⟨y, _, hu⟩ := List.mem_flatMap.1 hu
    exact h1 y u hu
  have h1C : ∀ u ∈ (S.drop i).flatMap enc, u.oneCell' = true := fun u hu => by
    obtain ⟨y, _, hu⟩ := List.mem_flatMap.1 hu
    exact h1 y u hu
  have hins := flat_ins (enc := enc) S i x
  generalize (S.take i).flatMap enc = A at *
  generalize (S.drop i).flatMap enc = C at *
  have hat : ∀ j, cur[j]? = cur.toList[j]? := fun j => by rw [Array.getElem?_toList]
  have HA : ∀ j u, A[j]? = some u → w.cell? ⟨g, j, none⟩ = some u := fun j u hj => by
    rw [HG.cell, hat, hcur, List.append_assoc, List.getElem?_append_left (List.getElem?_eq_some_iff.1 hj).1]
    exact hj
  have HC : ∀ j u, C[j]? = some u → w.cell? ⟨g, i * 3 + j, none⟩ = some u := fun j u hj => by
    rw [HG.cell, hat, hcur, List.append_assoc, List.getElem?_append_right (by omega), hlA, List.getElem?_append_left (by have := (List.getElem?_eq_some_iff.1 hj).1; omega), show i * 3 + j - i * 3 = j by omega]
    exact hj
  obtain ⟨i0, hi0, hz0, hzs, hzb⟩ := info_parts info
  have hold : (Builtin.firstCells i0.size i (.slice (some ⟨g, 0, none⟩) i c)).run Try.prog w.drew = .ok A.toArray w.drew := by
    rw [hzs]
    exact run_firstCells_some w.drew 3 i ⟨g, 0, none⟩ i c A hlA (fun j u hj => by rw [add_none, Nat.zero_add]; exact HA j u hj)
  obtain ⟨Z, hZ, hrz⟩ : ∃ Z : List Value, Z.length = (grownCap w (S.length + 1) c 37 - i) * 3 ∧ ∀ ty, (Builtin.append_ #[23, 3] ty #[.slice (some ⟨g, 0, none⟩) i c, .int .i64 ((S.length : Int) + 1 - (i : Int))]).run Try.prog w =
      .ok (.slice (some ⟨w.heap.size, 0, none⟩) (S.length + 1) (grownCap w (S.length + 1) c 37)) (w.drew.alloc (.cells (A ++ Z).toArray 37)) := by
    refine ⟨(Builtin.zeroCells (Value.agg #[.int .i64 0, .int .i64 0, .int .i64 0]).cells (S.length + 1 - i)).toList ++ (Builtin.zeroCells (Value.agg #[.int .i64 0, .int .i64 0, .int .i64 0]).cells (grownCap w (S.length + 1) c 37 - (S.length + 1))).toList, ?_, fun ty => ?_⟩
    · have := grownCap_ge w (S.length + 1) c 37
      rw [List.length_append, zero_len, zero_len]
      show (S.length + 1 - i) * 3 + _ * 3 = _ * 3
      omega
    · have hh := Lib.run_append_grow_zeros w 23 3 ty 37 i0 _ .i64 .i64 Try.underlying23 Try.underlying3 hi0 hz0 (some ⟨g, 0, none⟩) i c A hold (S.length + 1 - i) (by omega) (by omega) (by omega) (by omega) (by rw [hzb]; omega) (by rw [hzb, show i + (S.length + 1 - i) = S.length + 1 by omega]; exact growslice_fits (by omega) (by omega))
      rw [show i + (S.length + 1 - i) = S.length + 1 by omega] at hh
      rw [show (S.length : Int) + 1 - (i : Int) = ((S.length + 1 - i : Nat) : Int) by omega, hh]
      congr 4
      apply Array.toList_inj.1
      simp
  obtain ⟨G, hG, hGn, hG63⟩ : ∃ G, grownCap w (S.length + 1) c 37 = G ∧ S.length + 1 ≤ G ∧ G ≤ 9223372036854775807 := ⟨_, rfl, grownCap_ge _ _ _ _, by
    have := grownCap_le_maxLen w (S.length + 1) c 37 (by unfold maxLen; omega)
    unfold maxLen at this
    exact this⟩
  rw [hG] at hZ hrz
  have hgw : g < w.heap.size := HG.lt
  have hvw : bv < w.heap.size := hv.lt
  obtain ⟨W1, hW1⟩ : ∃ W1, w.drew.alloc (.cells (A ++ Z).toArray 37) = W1 := ⟨_, rfl⟩
  have hB1 : Below w.heap.size w W1 := by rw [← hW1]; exact (Below.refl _ w).drew.alloc (Nat.le_refl _) _
  have hN1 : Lies W1 w.heap.size 37 (A ++ Z).toArray := by rw [← hW1]; exact Lies.new w.drew _ _
  rw [hW1] at hrz
  have hAZ : (A ++ Z).toArray.size = G * 3 := by simp; omega
  have hV1 := hv.below hB1 hvw
  have hcpA : ∀ ty dc, (Builtin.copy_ #[23, 23] ty #[.slice (some ⟨w.heap.size, i * 3, none⟩) (S.length + 1 - i) dc, .slice (some ⟨bv, 0, none⟩) 1 1]).run Try.prog W1 = .ok (goInt (Nat.min 1 (S.length + 1 - i))) (W1.setRow w.heap.size (spl (A ++ Z).toArray (i * 3) (enc x))) := fun ty dc =>
    run_copy_lies W1 23 23 ty 37 3 w.heap.size (i * 3) _ dc ⟨bv, 0, none⟩ 1 1 _ _ (enc x) Try.underlying23 size hN1
      (by rw [hxl]; simp only [Nat.min_def]; split <;> omega) (fun j u hj => by rw [add_none, Nat.zero_add, hV1.cell]; simpa using hj) (by rw [hxl, hAZ]; omega) (h1 x)
  obtain ⟨W2, hW2⟩ : ∃ W2, W1.setRow w.heap.size (spl (A ++ Z).toArray (i * 3) (enc x)) = W2 := ⟨_, rfl⟩
  have hB2 : Below w.heap.size w W2 := by rw [← hW2]; exact below_row hB1 (Nat.le_refl _) _
  have hN2 : Lies W2 w.heap.size 37 (spl (A ++ Z).toArray (i * 3) (enc x)) := by rw [← hW2]; exact lies_setRow hN1 _
  have hss : (spl (A ++ Z).toArray (i * 3) (enc x)).size = G * 3 := by rw [spl_size _ _ _ (by rw [hxl, hAZ]; omega), hAZ]
  rw [hW2] at hcpA
  have hcpB : ∀ (W : World), W.heap = W2.heap → ∀ ty dc sc, (Builtin.copy_ #[23, 23] ty #[.slice (some ⟨w.heap.size, (i + 1) * 3, none⟩) (S.length - i) dc, .slice (some ⟨g, i * 3, none⟩) (S.length - i) sc]).run Try.prog W = .ok (goInt (Nat.min (S.length - i) (S.length - i))) (W.setRow w.heap.size (spl (spl (A ++ Z).toArray (i * 3) (enc x)) ((i + 1) * 3) C)) := fun W hW ty dc sc => by
    have hNW : Lies W w.heap.size 37 (spl (A ++ Z).toArray (i * 3) (enc x)) := hN2.like (by rw [hW])
    have hGW : Lies W g 37 cur := (HG.below hB2 hgw).like (by rw [hW])
    exact run_copy_lies W 23 23 ty 37 3 w.heap.size ((i + 1) * 3) _ dc ⟨g, i * 3, none⟩ _ sc _ _ C Try.underlying23 size hNW
      (by rw [hlC]; congr 1; simp only [Nat.min_def]; split <;> omega) (fun j u hj => by rw [add_none, hGW.cell, ← HG.cell]; exact HC j u hj) (by rw [hlC, hss]; omega) h1C
  have HX := Lib.hid (show (spl (spl (A ++ Z).toArray (i * 3) (enc x)) ((i + 1) * 3) C).toList.take ((S.length + 1) * 3) = (S.take i ++ x :: S.drop i).flatMap enc by
    rw [hins, ← spl_grow A C Z (enc x), hlA, hxl, hlC]
    have e1 : i * 3 + 3 = (i + 1) * 3 := by omega
    have e2 : i * 3 + 3 + (S.length - i) * 3 = (S.length + 1) * 3 := by omega
    rw [e2, e1])
  have hs3 : (spl (spl (A ++ Z).toArray (i * 3) (enc x)) ((i + 1) * 3) C).size = G * 3 := by rw [spl_size _ _ _ (by rw [hlC, hss]; omega), hss]
  have HB2 := Lib.hid hB2
  have HN2 := Lib.hid hN2
  have HS3 := Lib.hid hs3
  generalize (S.take i ++ x :: S.drop i).flatMap enc = Y at *
  generalize (spl (spl (A ++ Z).toArray (i * 3) (enc x)) ((i + 1) * 3) C) = cur3 at *
  clear hs3 hN2 hB2 hss hV1 hAZ hN1 hB1 hW1 hW2 hins hZ hold hi0 hz0 hzs hzb HA HC hat hcur h1A h1C hxl hlA hlC hsp htake hcs HG h hk h1 hv hG
  generalize S.length = n at *
  have z1 : ((i : Int) == (n : Int)) = false := by simp; omega
  have z2 : ¬ ((i : Int) = (n : Int)) := by omega
  have z3 : (c : Int) < (n : Int) + 1 := by omega
  have z4 : (i : Int) ≤ (n : Int) := by omega
  have z5 : ¬ (c = i) := by omega
  have z6 : ¬ (G = i + 1) := by omega
  have z6' : ¬ (G = i) := by omega
  have z7 : (i : Int) ≤ (n : Int) + 1 := by omega
  have z8 : (i : Int) + 1 ≤ (n : Int) + 1 := by omega
  have z9 : (n : Int) ≤ 1000000 := by omega
  have z10 : (c : Int) ≤ 9223372036854775807 := by omega
  have z11 : (G : Int) ≤ 9223372036854775807 := by omega
  go_enter Try.func43, Try.ntmps43
  go_wp2_with (first
    | (at_builtin; refine Lib.wpList_append_run _ rfl _ _ _ _ rfl _ _ rfl rfl _ _ (hrz _) ?_)
    | (at_builtin; refine wpList_copy_runI _ rfl _ _ 23 23 rfl _ _ rfl rfl (hcpA _ _) ?_))
  have w1 : IntKind.i64.wrap ((i : Int) + 1) = (i : Int) + 1 := IntWalk.i64_in _ (by omega)
  have w2 : (0 : Int) ≤ (i : Int) + 1 := by omega
  have w3 : ((i : Int) + 1).toNat = i + 1 := by omega
  go_region_law
    ((refine step_copy_runI (by rfl) (.tmp 50) (.tmp 53) 23 23 (by rfl) (.slice (some ⟨w.heap.size, (i + 1) * 3, none⟩) (n - i) (G - (i + 1))) (.slice (some ⟨g, i * 3, none⟩) (n - i) (c - i)) (by simp [Act.eval, Act.put]) (by simp [Act.eval, Act.put]) (hcpB W2.drew rfl _ _ _) ?_))
  all_goals
    clear w1 w2 w3
    go_wp2
    go_ret
    have HL3 : Lies (W2.drew.setRow w.heap.size cur3) w.heap.size 37 cur3 := lies_setRow (cur := (spl (A ++ Z).toArray (i * 3) (enc x))) HN2.out cur3
    exact ⟨G, rfl, own_lies HL3 hBw hGn hG63 HS3.out HX.out, Turn.of_below (below_row HB2.out.drew (Nat.le_refl _) _)⟩
/-- slices.Insert, of one thing, at a place. -/
theorem ins_any (hk : ∀ x, (enc x).length = 3) (h1 : ∀ x, ∀ u ∈ enc x, u.oneCell' = true) (B : Nat) (v : Value) (S : List α) (i : Nat) (x : α) (bv : Nat) (w : World) (h : w.ownsRow B 37 3 v S.length (S.flatMap enc)) (hL : S.length ≤ 1000000) (hv : Lies w bv 37 (enc x).toArray) (hne : v.ownBlock ≠ some bv) (hBw : B ≤ w.heap.size) (hi : i ≤ S.length) :
    Calls Try.prog 43 #[v, .int .i64 (i : Int), .slice (some ⟨bv, 0, none⟩) 1 1] w fun e w' =>
      ∃ v', e = .returned v' ∧ w'.ownsRow B 37 3 v' (S.length + 1) ((S.take i ++ x :: S.drop i).flatMap enc) ∧ Turn (fun k => v.ownBlock = some k) w w' ∧ (v'.ownBlock = v.ownBlock ∨ v'.ownBlock = some w.heap.size) := by
  by_cases hlt : i < S.length
  · obtain ⟨g, c, rfl, _, _, hnc⟩ := own_some h (by omega)
    have hS : ∀ k, k = g → (Value.slice (some ⟨g, 0, none⟩) S.length c).ownBlock = some k := fun k hk' => by rw [hk']; rfl
    by_cases hr : S.length < c
    · refine (ins_room hk h1 B g c S i x bv w h hL hv (fun e => hne (by rw [e]; rfl)) hlt hr).mono ?_
      rintro e w' ⟨rfl, h2, h3⟩
      exact ⟨_, rfl, h2, h3.mono (fun k _ hk' => hS k hk'), .inl rfl⟩
    · refine (ins_grow hk h1 B g c S i x bv w h hL hv hBw hlt hr).mono ?_
      rintro e w' ⟨d, rfl, h2, h3⟩
      exact ⟨_, rfl, h2, h3.mono (fun k _ hk' => hS k hk'), .inr rfl⟩
  · obtain rfl : i = S.length := by omega
    rw [List.take_length, List.drop_length]
    exact ins_end hk h1 B v S x bv w h hBw hL hv
set_option maxRecDepth 100000 in
set_option maxHeartbeats 4000000 in
/-- slices.Clone. -/
theorem clone_any (hk : ∀ x, (enc x).length = 3) (h1 : ∀ x, ∀ u ∈ enc x, u.oneCell' = true) (q : Option Addr) (n c : Nat) (S : List α) (w : World) (h : Rw 3 enc w q n S) (hL : S.length ≤ 1000000) :
    Calls Try.prog 31 #[.slice q n c] w fun e w' => ∃ v, e = .returned v ∧ w'.ownsRow w.heap.size 37 3 v S.length (S.flatMap enc) ∧ Below w.heap.size w w' := by
  have qe : ∀ (w : World) (a : Option Addr) (n c n' c' : Nat), (binOp .eql 23 (.slice a n c) (.slice none n' c')).run Try.prog w = .ok (.bool a.isNone) w := fun w a n c n' c' => Lib.run_eql_slice_nil w _ _ a n c n' c' Try.underlying23
  cases q with
  | none =>
    have hS : S = [] := by
      rcases Nat.eq_zero_or_pos n with h0 | h0
      · exact List.eq_nil_of_length_eq_zero (h.1.trans h0)
      · obtain ⟨_, _, e, _⟩ := h.2 h0
        cases e
    subst hS
    go_enter Try.func31, Try.ntmps31
    go_wp2
    go_ret
    exact ⟨_, rfl, World.ownsRow_nil _ _ _ _, Below.refl _ _⟩
  | some a =>
    obtain ⟨i0, hi, hz0, hz1, hz2⟩ := info_parts info
    have hn := h.1
    have hl : (S.flatMap enc).length = n * 3 := by rw [flat_len hk, hn]
    have hc : ∀ j u, (S.flatMap enc)[j]? = some u → w.cell? (a.add j) = some u := fun j u hj => by
      have hlt := (List.getElem?_eq_some_iff.1 hj).1
      obtain ⟨b, o, e, _⟩ := h.2 (by omega)
      cases e
      rw [add_none]
      exact rw_cells hk h j u hj
    have HC := Lib.hid hc
    have H1 := Lib.hid (show ∀ u ∈ S.flatMap enc, u.oneCell' = true from fun u hu => by
      obtain ⟨y, _, hu⟩ := List.mem_flatMap.1 hu
      exact h1 y u hu)
    subst hn
    clear hc h h1
    go_enter Try.func31, Try.ntmps31
    go_wp2_with (at_builtin; refine wpList_append_own _ rfl _ _ 23 rfl w.heap.size 37 i0 _ 3 24 Try.underlying23 hi hz0 hz1 hz2 rfl (by decide) _ _ _ rfl (World.ownsRow_made w #[] 0 (Nat.le_refl _) (Nat.zero_le _) (by simp)) a S.length c (S.flatMap enc) rfl ?qc1 ?qc2 ?qc3 ?qc4 ?qc5 ?qc6 ?_)
    case qc1 => exact hl
    case qc2 =>
      intro j u hj
      exact Lib.cell?_alloc_some _ (HC.out j u hj)
    case qc3 => exact H1.out
    case qc4 => unfold maxLen; omega
    case qc5 => omega
    case qc6 => simp
    intro v' w1 hown hgrow hnil
    go_wp2
    go_ret
    refine ⟨v', rfl, by simpa using hown, ?_⟩
    exact ((Below.refl _ w).alloc (Nat.le_refl _) _).grown hgrow (by simp) (by intro k hk; simp [Value.ownBlock] at hk; omega)
end
end Rd
end Go.Proofs.Ytfmnbmjfkplieaa
