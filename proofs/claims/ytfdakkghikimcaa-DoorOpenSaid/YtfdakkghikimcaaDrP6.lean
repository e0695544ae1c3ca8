/- Walks over package door: All. No condition but those written. -/
import Derived.Test.YtfdakkghikimcaaDrP4
import Derived.Test.YtfdakkghikimcaaDrP5
import Derived.Sort.OwnSorted
namespace Go.Proofs.Ytfdakkghikimcaa
open Go.RowKit Go.Maps

namespace Dr
open Se
/-- What has been collected. -/
structure Coll (S : List Rd) (left : Lit → Bool) (cnt : Nat) (acc : List Rd) : Prop where
  sub : ∀ x ∈ acc, x ∈ S ∧ met left x
  all : ∀ x ∈ S, met left x → x ∈ acc
  apart : Apart acc
  few : acc.length + cnt ≤ S.length
theorem coll_start {D : DataW Unit} {S : List Rd} (h : Mp D S) : Coll S (Maps.has D) (Maps.size D) [] :=
  ⟨fun x hx => by simp at hx, fun x hx hm => (by
    unfold met at hm
    rw [mp_has h hx] at hm
    cases hm), List.Pairwise.nil, by rw [h.size]; simp⟩
theorem same_place {S : List Rd} (hS : Good S) {x y : Rd} (hx : x ∈ S) (hy : y ∈ S) (ho : Se.one x y) : x = y := by
  obtain ⟨i, hi⟩ := List.mem_iff_getElem?.1 hx
  obtain ⟨j, hj⟩ := List.mem_iff_getElem?.1 hy
  have ha := sorted_apart hS.sorted
  rcases Nat.lt_trichotomy i j with hij | hij | hij
  · exact absurd ho (apart_at ha hj hi hij)
  · subst hij
    rw [hi] at hj
    exact Option.some.inj hj
  · exact absurd (one_comm ho) (apart_at ha hi hj hij)
theorem coll_step {S : List Rd} {left : Lit → Bool} {cnt cnt' : Nat} {acc : List Rd} {km ks : Int} (hS : Good S) (h : Coll S left cnt acc) (hk : In64 km ∧ In64 ks) (hl : left (pk km ks) = true) (hc : cnt' < cnt) {x : Rd} (hx : x ∈ S) (hx1 : x.min = km) (hx2 : x.seq = ks) :
    Coll S (fun z => left z && !z.sameKey (pk km ks)) cnt' (acc ++ [x]) := by
  have hnew : ∀ y ∈ acc, ¬ Se.one y x := by
    intro y hy ho
    have h1 := (h.sub y hy).2
    unfold met at h1
    rw [ho.1, ho.2, hx1, hx2, hl] at h1
    cases h1
  refine ⟨fun y hy => ?_, fun y hy hm => ?_, ?_, ?_⟩
  · rcases List.mem_append.1 hy with hy | hy
    · have h1 := h.sub y hy
      exact ⟨h1.1, (met_step hk (hS.right y h1.1)).2 (.inl h1.2)⟩
    · rw [List.mem_singleton.1 hy]
      exact ⟨hx, (met_step hk (hS.right x hx)).2 (.inr ⟨hx1, hx2⟩)⟩
  · rcases (met_step hk (hS.right y hy)).1 hm with h1 | ⟨h1, h2⟩
    · exact List.mem_append.2 (.inl (h.all y hy h1))
    · have : y = x := same_place hS hy hx ⟨by omega, by omega⟩
      simp [this]
  · refine List.pairwise_append.2 ⟨h.apart, by simp, fun y hy z hz => ?_⟩
    rw [List.mem_singleton.1 hz]
    exact hnew y hy
  · have := h.few
    simp only [List.length_append, List.length_cons, List.length_nil]
    omega
/-- Collected, and sorted: what there was. -/
theorem coll_end {S : List Rd} {left : Lit → Bool} {cnt : Nat} {acc L : List Rd} (hS : Good S) (h : Coll S left cnt acc) (hl : ∀ kl, left kl = false) (hp : L.Perm acc) (hs : L.Pairwise (fun a b => ¬ lt b a)) : L = S := by
  have ha : Apart L := hp.symm.pairwise h.apart (fun h1 h2 => h1 (one_comm h2))
  refine sorted_eq ?_ hS.sorted (fun x => ⟨fun hx => (h.sub x (hp.mem_iff.1 hx)).1, fun hx => hp.mem_iff.2 (h.all x hx (hl _))⟩)
  refine (List.Pairwise.and hs ha).imp fun {a b} h1 => ?_
  rcases lt_or a b with h2 | h2 | h2
  · exact h2
  · exact absurd h2 h1.2
  · exact absurd h2 h1.1
theorem ptold_nil (w : World) : Calls Try.prog 11 #[.pointer none] w fun e w' => ∃ p c, e = .returned (.slice p 0 c) ∧ Below w.heap.size w w' := by
  go_enter Try.func11, Try.ntmps11
  go_wp2
  go_ret
  exact ⟨none, 0, rfl, Below.refl _ _⟩
set_option maxRecDepth 100000 in
set_option maxHeartbeats 4000000 in
theorem ptold_map (h b : Nat) (D : DataW Unit) (S : List Rd) (w : World) (hl : Lies w h 54 #[.map (some b)]) (hown : w.ownsMap Try.prog 56 (plainElem Try.prog 4) b S.length D) (hM : Mp D S) (hS : Good S) (hL : S.length ≤ 1000) :
    Calls Try.prog 11 #[.pointer (some ⟨h, 0, none⟩)] w fun e w' => ∃ v, e = .returned v ∧ w'.ownsRow w.heap.size 31 3 v S.length (S.flatMap mcells) ∧ Below w.heap.size w w' := by
  obtain ⟨i0, hi, hz0, hz1, hz2⟩ := info_parts infoM
  have HM := Lib.hid hM
  have HS := Lib.hid hS
  clear hM hS
  have HB := Lib.hid hown.lt
  have OW := Lib.hid hown
  have l0 : w.cell? ⟨h, 0, none⟩ = some (.map (some b)) := hl.cell 0
  clear hown hl
  go_enter Try.func11, Try.ntmps11
  go_wp2_with (at_range; refine wpList_range_own _ rfl _ 52 rfl 56 4 law Try.underlying52 _ b S.length D rfl OW.out ?_; intro w2 hrg2 hg2 hs2)
  go_frame
  clear l0
  have RG2 := Lib.hid hrg2
  have B2 : Hid (Below w.heap.size w w2) := Lib.hid ((Below.refl _ _).grown hg2 (Nat.le_refl _) (fun k hk => by cases hk))
  have HS2 : Hid (w.heap.size + 1 ≤ w2.heap.size) := Lib.hid (by omega)
  clear hrg2 hg2 hs2 OW
  have CO2 := Lib.hid (coll_start HM.out)
  have RW2 : Hid (w2.ownsRow (w.heap.size + 1) 31 3 (.slice none 0 0) ([] : List Rd).length (([] : List Rd).flatMap mcells)) := Lib.hid ⟨rfl, .inl ⟨rfl, rfl⟩⟩
  go_loopw [3] (fun v wr => ∃ (left : Lit → Bool) (cnt : Nat) (acc : List Rd), Hid (wr.ranges Try.prog 56 (plainElem Try.prog 4) b w.heap.size S.length D left cnt) ∧ Hid (Coll S left cnt acc) ∧ Hid (wr.ownsRow (w.heap.size + 1) 31 3 v acc.length (acc.flatMap mcells)) ∧ Hid (Below w.heap.size w wr) ∧ Hid (w.heap.size + 1 ≤ wr.heap.size)) (fun _ wr => wr.rangeLeft b w.heap.size)
  case atStart => exact ⟨_, _, [], RG2, CO2, RW2, B2, HS2⟩
  case round =>
    obtain ⟨left, cnt, acc, RG, CO, RW, BW, HZ⟩ := hrel
    clear RG2 CO2 RW2 B2 HS2
    go_wp2_with (at_next; refine next_place _ rfl _ rfl b w.heap.size S.length D left cnt rfl RG.out (fun hl0 => unstay ?_) (fun km ks c w3 cnt3 hst hen => unstay ?_))
    · have HL0 := Lib.hid hl0.out
      have hfew := CO.out.few
      by_cases h0 : 0 < acc.length
      · obtain ⟨g, c, rfl, hg1, hg2, hgc⟩ := own_some RW.out h0
        have PS := Lib.hid (fun (W : World) (hW : W.ownsRow (w.heap.size + 1) 31 3 (.slice (some ⟨g, 0, none⟩) acc.length c) acc.length (acc.flatMap mcells)) => psort_any (w.heap.size + 1) g c acc W hW (by omega))
        have HG := Lib.hid hg1
        clear hg1 hg2 hgc hl0 hfew h0
        refine stay ?_
        go_wp2_with fail
        refine (PS.out _ RW.out).mono ?_
        rintro e w5 ⟨rfl, L, hp, hs, ho5, hg5⟩
        have HE := Lib.hid (coll_end HS.out CO.out HL0.out hp hs)
        have HN := Lib.hid hp.length_eq
        have B5 := Lib.hid (BW.out.grown hg5 BW.out.size (fun k hk => by have := Option.some.inj hk; have := HG.out; omega))
        have O5 := Lib.hid (own_base ho5 (show w.heap.size ≤ w.heap.size + 1 by omega))
        clear hp hs ho5 hg5
        go_wp2
        go_ret
        refine ⟨_, rfl, ?_, B5.out⟩
        rw [← HE.out, HN.out]
        exact O5.out
      · have hz : acc.length = 0 := by omega
        obtain rfl := List.eq_nil_of_length_eq_zero hz
        obtain ⟨q, d, rfl⟩ := own_slice RW.out
        have HE := Lib.hid (coll_end HS.out CO.out HL0.out (List.Perm.refl _) List.Pairwise.nil)
        have PS := Lib.hid (fun W => AnyF.slices_SortFunc_none Try.sortMk q d (.func (.func 23) #[] #[]) W)
        have O5 := Lib.hid (own_base RW.out (show w.heap.size ≤ w.heap.size + 1 by omega))
        clear hl0 hfew h0 hz RW
        refine stay ?_
        go_wp2_with fail
        refine (PS.out _).mono ?_
        rintro e w5 ⟨rfl, rfl⟩
        go_wp2
        go_ret
        refine ⟨_, rfl, ?_, BW.out⟩
        rw [← HE.out]
        exact O5.out
    · obtain ⟨x, hx, hx1, hx2, hx3⟩ := here_step HM.out hst.k64 hst.at_
      have CO3 := Lib.hid (coll_step HS.out CO.out hst.k64 hst.was hst.less hx hx1 hx2)
      have HX : Hid (mcells x = [.int .i64 km, .int .i64 ks, .bool c]) := Lib.hid (by rw [mcells, hx1, hx2, hx3])
      have hfew := CO3.out.few
      simp only [List.length_append, List.length_cons, List.length_nil] at hfew
      have B3 := Lib.hid (BW.out.grown hst.grown BW.out.size (fun k hk => by have := Option.some.inj hk; omega))
      have HZ3 : Hid (w.heap.size + 1 ≤ w3.heap.size) := Lib.hid (by rw [hst.size]; exact HZ.out)
      have RG3 := Lib.hid hst.goes
      have RW3 := Lib.hid (RW.out.kept hst.grown (.inr (fun e => by have := (own_lt RW.out e).1; omega)))
      have HL := Lib.hid hst.less
      clear hst hx hx1 hx2 hx3 RW
      have RG4 := Lib.hid ((RG3.out.alloc (.cells #[.int .i64 km, .int .i64 ks] 56)).alloc (.cells #[.int .i64 km, .int .i64 ks, .bool c] 31))
      have RW4 := Lib.hid ((RW3.out.alloc (.cells #[.int .i64 km, .int .i64 ks] 56)).alloc (.cells #[.int .i64 km, .int .i64 ks, .bool c] 31))
      have B4 := Lib.hid ((B3.out.alloc B3.out.size (.cells #[.int .i64 km, .int .i64 ks] 56)).alloc (by have := B3.out.size; simp; omega) (.cells #[.int .i64 km, .int .i64 ks, .bool c] 31))
      refine stay ?_
      go_wp2_with (at_builtin; refine wpList_append_own _ rfl _ _ 22 rfl (w.heap.size + 1) 31 i0 _ 3 24 Try.underlying22 hi hz0 hz1 hz2 rfl (by decide) _ _ _ rfl RW4.out ⟨w3.heap.size + 1, 0, none⟩ 1 1 [.int .i64 km, .int .i64 ks, .bool c] rfl rfl (by have h := World.news_of_block (cs := #[.int .i64 km, .int .i64 ks, .bool c]) (t := 31) (fr := (0, 0)) (heap_alloc_new (w3.alloc (.cells #[.int .i64 km, .int .i64 ks] 56)) _); simpa using h) (by simp [Value.oneCell']) (by unfold maxLen; omega) (by omega) (by have := HZ3.out; simp; omega) ?_; intro v2 w5 hown5 hg5 _; have RW5 : Hid (w5.ownsRow (w.heap.size + 1) 31 3 v2 (acc ++ [x]).length ((acc ++ [x]).flatMap mcells)) := Lib.hid (by rw [← flat_snoc, HX.out, List.length_append]; exact hown5); have RG5 := Lib.hid (RG4.out.kept hg5 (fun e => by have := (own_lt RW4.out e.symm).1; have := HB.out; omega) (fun e => by have := (own_lt RW4.out e.symm).1; omega)); have B5 := Lib.hid (B4.out.grown hg5 B4.out.size (fun k hk => by have := (own_lt RW4.out hk).1; omega)); have HZ5 : Hid (w.heap.size + 1 ≤ w5.heap.size) := Lib.hid (by have := hg5.size; have := HZ3.out; simp at *; omega); clear hown5 hg5)
      go_roundw
      case rel => exact ⟨_, cnt3, acc ++ [x], RG5, CO3, RW5, B5, HZ5⟩
      case measure =>
        rw [RG5.out.left_eq, RG.out.left_eq]
        exact HL.out
set_option maxRecDepth 100000 in
set_option maxHeartbeats 4000000 in
theorem ptold_none (h : Nat) (w : World) (hl : Lies w h 54 #[.map none]) :
    Calls Try.prog 11 #[.pointer (some ⟨h, 0, none⟩)] w fun e w' => e = .returned (.slice none 0 0) ∧ Below w.heap.size w w' := by
  have PS := Lib.hid (fun W => AnyF.slices_SortFunc_none Try.sortMk none 0 (.func (.func 23) #[] #[]) W)
  have l0 : w.cell? ⟨h, 0, none⟩ = some (.map none) := hl.cell 0
  clear hl
  have e1 := run_range_nilMap (P := Try.prog) w 52 56 4 Try.underlying52
  have e2 := fun ty => run_next_nilMap (P := Try.prog) w ty 0 0 #[]
  have B2 := Lib.hid (alloc_below w (.mapIter none 0 #[] 0))
  go_enter Try.func11, Try.ntmps11
  go_wp2
  refine wp_loop_rounds 1 ?_
  rw [rounds_succ]
  go_wp2_with fail
  refine (PS.out _).mono ?_
  rintro e w5 ⟨rfl, rfl⟩
  go_wp2
  go_ret
  exact ⟨rfl, B2.out⟩
/-- All, whole. -/
theorem ptold_any (B h : Nat) (F : Nat → Prop) (S : List Rd) (w : World) (hp : PDoor w B h F S) (hS : Good S) (hL : S.length ≤ 1000) :
    Calls Try.prog 11 #[.pointer (some ⟨h, 0, none⟩)] w fun e w' => ∃ v, e = .returned v ∧ w'.ownsRow w.heap.size 31 3 v S.length (S.flatMap mcells) ∧ Below w.heap.size w w' := by
  obtain ⟨mo, hl, hB, hF, hm⟩ := hp
  rcases hm with ⟨rfl, rfl⟩ | ⟨b, D, rfl, hne, hBb, hown, hM⟩
  · exact (ptold_none h w hl).mono fun e w' ⟨he, hb⟩ => ⟨_, he, ⟨rfl, .inl ⟨rfl, rfl⟩⟩, hb⟩
  · exact ptold_map h b D S w hl hown hM hS hL
end Dr
end Go.Proofs.Ytfdakkghikimcaa
