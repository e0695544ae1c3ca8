/- Walks over package fefo: the places of a list, sorted. No condition but those written. -/
import Derived.Test.YtclpdemhfbjliaaFfPb
import Derived.Test.YtclpdemhfbjliaaSortI
namespace Go.Proofs.Ytclpdemhfbjliaa
open Go.RowKit Lo

namespace Ff
/-- A place as a value. -/
def pval {n : Nat} (i : Fin n) : Value := .int .i64 (i.val : Int)
theorem pval_flat {n : Nat} : ∀ l : List (Fin n), l.map pval = (l.map Fin.val).flatMap pcells
  | [] => rfl
  | x :: l => by
    rw [List.map_cons, pval_flat l]
    rfl
theorem pval_len {n : Nat} (l : List (Fin n)) : ((l.map Fin.val).flatMap pcells).length = l.length := by
  rw [← pval_flat, List.length_map]
theorem sort_heap {α : Type} [Inhabited α] {enc : α → Value} {w : World} {g m : Nat} {d : Array α} {os : Array Obj} {cur : Array Value} {e : TypeId} {fr : Nat × Nat} (hb : w.heap[g]? = some (.cells cur e fr)) :
    (sortWorld enc w g 0 m d os).heap[g]? = some (.cells (Sort.putCells enc 0 d cur) e fr) := by
  have hg : g < w.heap.size := (Array.getElem?_eq_some_iff.1 hb).1
  unfold sortWorld
  rw [Sort.heap_grow_old _ _ (by simpa using hg)]
  simp [Sort.putRow, Sort.mapBlock, Sort.ahead, Array.getElem?_modify, hb, Sort.onCells]
theorem sort_grown {α : Type} [Inhabited α] {enc : α → Value} {w : World} {g m : Nat} {d : Array α} {os : Array Obj} : w.grownBy (sortWorld enc w g 0 m d os) (some g) := by
  refine ⟨rfl, rfl, rfl, by simp [sortWorld], fun k hk hne => ?_⟩
  unfold sortWorld
  rw [Sort.heap_grow_old _ _ (by simpa using hk)]
  have : g ≠ k := fun e => hne (by rw [e])
  simp [Sort.putRow, Sort.mapBlock, Sort.ahead, Array.getElem?_modify, this]
theorem cmp_lt {n : Nat} (l : List Lt) (x y : Fin n) : ltOf (fun a b : Fin n => cmpL l a b) x y = decide (Ahd l x y) := by
  unfold ltOf
  rw [decide_eq_decide]
  exact cmpL_neg l x y
theorem cmp_swo (n : Nat) (l : List Lt) : Sort.SWO (ltOf (fun a b : Fin n => cmpL l a b)) where
  irrefl x := by
    rw [cmp_lt, decide_eq_false_iff_not]
    unfold Ahd
    omega
  trans x y z h1 h2 := by
    rw [cmp_lt] at *
    simp only [decide_eq_true_eq] at *
    unfold Ahd at *
    omega
  ntrans x y z h1 h2 := by
    rw [cmp_lt] at *
    simp only [decide_eq_false_iff_not] at *
    unfold Ahd at *
    omega
theorem fin_list (n : Nat) : ((List.finRange n).map Fin.val) = List.range n := by
  apply List.ext_getElem
  · simp
  · intro i h1 h2
    simp
set_option maxHeartbeats 1000000 in
/-- The places of a list are sorted. -/
theorem fsort_any (B g cap gb : Nat) (p : Option Addr) (n c : Nat) (L : List Lv) (w : World) (hown : w.ownsRow B 3 1 (.slice (some ⟨g, 0, none⟩) n cap) n ((List.range n).flatMap pcells)) (hbox : w.cell? ⟨gb, 0, none⟩ = some (.slice p n c)) (hne : gb ≠ g)
    (hA : Rw 8 lcells w p n L) (hp : 0 < n → ∀ a, p = some a → a.block ≠ g) (hn : n ≤ 1000000) :
    Calls Try.prog 17 #[.slice (some ⟨g, 0, none⟩) n cap, .func (.func 22) #[] #[.pointer (some ⟨gb, 0, none⟩)]] w fun e w' =>
      e = .returned (.tuple #[]) ∧ w'.ownsRow B 3 1 (.slice (some ⟨g, 0, none⟩) n cap) n ((places (lts L)).flatMap pcells) ∧ w.grownBy w' (some g) := by
  have hll : (lts L).length = n := by unfold lts; rw [List.length_map]; exact hA.1
  rcases Nat.eq_zero_or_pos n with h0 | hpos
  · subst h0
    refine (AnyF.slices_SortFunc_none { Try.sortI with } (some ⟨g, 0, none⟩) cap _ w).mono fun e w' h => ?_
    obtain ⟨he, hw⟩ := h
    subst hw
    have e2 : places (lts L) = [] := List.eq_nil_of_length_eq_zero (by rw [places_len, hll])
    rw [e2]
    exact ⟨he, hown, rfl, rfl, rfl, Nat.le_refl _, fun _ _ _ => rfl⟩
  · have inst : Inhabited (Fin n) := ⟨⟨0, hpos⟩⟩
    have hh : w.heap.size ≥ gb + 1 := World.block_lt_of_cell? w _ hbox
    rcases hown.2 with ⟨h0, _⟩ | ⟨g', cap', cur, hv, hbase, hb, h1, h2, h3, h4⟩
    · cases h0
    cases hv
    have hds : (List.finRange n).toArray.size = n := by simp
    have hH : Sort.Holds pval w g 0 (List.finRange n).toArray := by
      intro j hj
      rw [hds] at hj
      refine ⟨?_, by simp [World.frozen?, hb]⟩
      have e1 := hown.cellAt j (by rw [Nat.mul_one]; exact hj)
      rw [← fin_list n, ← pval_flat] at e1
      rw [Nat.zero_add, e1, List.getElem?_map, getElem!_pos _ j (by rw [hds]; exact hj), List.getElem?_eq_getElem (by simpa using hj)]
      simp
    have eg : ∀ args w, (callFunc 22 args).run Try.prog w = .ok (.enter 22 args) w := enters_of Try.func22 (by kernel_rfl) rfl
    have hcmp : CmpLays1 Try.prog 22 #[.pointer (some ⟨gb, 0, none⟩)] pval (fun a b : Fin n => cmpL (lts L) a b) g 0 (List.finRange n).toArray.size w := by
      intro m os dk _ x y
      have T : Turn (fun k => k = g) w (sortWorld pval w g 0 m dk os) := (Turn.refl _ w).grown sort_grown (fun k hk => .inl (Option.some.inj hk).symm)
      refine clos_any p n c L x y gb _ ?_ ?_ hn x.2 y.2
      · exact (World.cell?_of_block (a := ⟨gb, 0, none⟩) (T.block gb hh hne)).trans hbox
      · exact hA.like lcells_len (fun b i hlt hpb => World.cell?_of_block (a := ⟨b, i, none⟩) (T.block b hlt (fun hS => by
          obtain ⟨b2, o2, e2, _⟩ := hA.2 hpos
          have h5 := hpb _ e2
          have h6 := hp hpos _ e2
          simp only at h5 h6
          omega)))
    have hcon := Any.slices_SortFunc Try.sortI pval (fun _ => rfl) (fun a b : Fin n => cmpL (lts L) a b) (cmp_swo n (lts L)) 22 #[.pointer (some ⟨gb, 0, none⟩)] g 0 cap (List.finRange n).toArray w eg hcmp hH (Array.getElem?_eq_some_iff.1 hb).1 (by rw [hds]; omega)
    rw [hds] at hcon
    refine hcon.mono fun e w' h => ?_
    obtain ⟨he, d', m, os, hpm, hs, hw⟩ := h
    have hsz : d'.size = n := by rw [hpm.1, hds]
    have hS : d'.toList.map Fin.val = places (lts L) := by
      refine places_uniq ?_ ?_
      · have h5 := hpm.2.2
        rw [Array.extract_eq_self_of_le (by omega), Array.extract_eq_self_of_le (by rw [hds]; omega)] at h5
        have h6 := h5.map Fin.val
        rw [hll, ← fin_list n]
        simpa using h6
      · rw [List.pairwise_map, List.pairwise_iff_getElem]
        intro i j hi hj hij
        have hi' : i < d'.size := by simpa using hi
        have hj' : j < d'.size := by simpa using hj
        have h5 := hs i j (Nat.zero_le _) hij (by omega)
        rw [cmp_lt, decide_eq_false_iff_not, getElem!_pos d' i hi', getElem!_pos d' j hj'] at h5
        simpa using h5
    refine ⟨he, ?_, by rw [hw]; exact sort_grown⟩
    rw [← hS, hw]
    refine ⟨by rw [pval_len]; simp [hsz], .inr ⟨g, cap, _, rfl, hbase, sort_heap hb, h1, h2, by simp [Sort.putCells, h3], ?_⟩⟩
    rw [← pval_flat, Nat.mul_one]
    apply List.ext_getElem?
    intro j
    by_cases hj : j < n
    · have hcl : j < cur.size := by omega
      have e5 : d'[j]? = some d'[j] := Array.getElem?_eq_getElem (by omega)
      rw [List.getElem?_take_of_lt hj, Array.getElem?_toList, List.getElem?_map, Array.getElem?_toList, e5]
      simp [Sort.putCells, hsz, hj, hcl]
    · rw [List.getElem?_take_eq_none (by omega), List.getElem?_eq_none (by simp [hsz]; omega)]
theorem made_ints : ∀ n : Nat, (madeCells #[.int .i64 0] n).toList = (List.replicate n 0).flatMap pcells
  | n => by
    have h : ∀ m : Nat, (List.replicate m 0).flatMap pcells = List.replicate m (.int .i64 0) := by
      intro m
      induction m with
      | zero => rfl
      | succ m ih =>
        rw [List.replicate_succ, List.flatMap_cons, ih]
        rfl
    rw [h]
    simp only [madeCells, List.size_toArray, List.length_singleton]
    refine List.eq_replicate_iff.2 ⟨by simp, fun x hx => ?_⟩
    simp at hx
    obtain ⟨j, _, hj⟩ := hx
    rw [Nat.mod_one] at hj
    exact hj.symm
theorem made_own2 (w : World) (n : Nat) (hn : n ≤ 1000000) : (w.alloc (.cells (madeCells #[.int .i64 0] n) 3)).ownsRow w.heap.size 3 1 (.slice (some ⟨w.heap.size, 0, none⟩) n n) n ((List.replicate n 0).flatMap pcells) := by
  have h := World.ownsRow_lit (base := w.heap.size) (e := 3) (size := 1) w (madeCells #[.int .i64 0] n) n (Nat.le_refl _) (by unfold maxLen; omega) (by rw [size_madeCells, Nat.mul_one])
  rwa [made_ints] at h
/-- The first places are numbered. -/
def numd (n k : Nat) : List Nat := List.range k ++ List.replicate (n - k) 0
theorem numd_zero (n : Nat) : numd n 0 = List.replicate n 0 := by simp [numd]
theorem numd_all (n : Nat) : numd n n = List.range n := by simp [numd]
theorem numd_len {n k : Nat} (hk : k ≤ n) : (numd n k).length = n := by
  simp [numd]
  omega
theorem numd_next {n k : Nat} (hk : k < n) : (numd n k)[k]? = some 0 ∧ (numd n k).set k k = numd n (k + 1) := by
  have h2 : n - k = (n - (k + 1)) + 1 := by omega
  unfold numd
  constructor
  · rw [List.getElem?_append_right (by simp), List.length_range, Nat.sub_self, List.getElem?_replicate, if_pos (by omega)]
  · rw [List.set_append, if_neg (by simp), List.length_range, Nat.sub_self, h2, List.replicate_succ, List.set_cons_zero, List.range_succ]
    simp
set_option maxRecDepth 100000 in
set_option maxHeartbeats 8000000 in
theorem out_any (p : Option Addr) (n c : Nat) (L : List Lv) (w : World) (hA : Rw 8 lcells w p n L) (hn : n ≤ 1000000) :
    Calls Try.prog 12 #[.slice p n c] w (OutEnd w (lts L)) := by
  have hn' : (n : Int) ≤ 1000000 := by omega
  have HA := Lib.hid hA
  have HS := Lib.hid (show (lts L).length = n by unfold lts; rw [List.length_map]; exact hA.1)
  have HP : Hid (0 < n → ∀ a, p = some a → a.block < w.heap.size) := Lib.hid (fun h0 a ha => by
    obtain ⟨b, o, e, hc⟩ := hA.2 h0
    obtain ⟨x, hx⟩ : ∃ x, L[0]? = some x := ⟨_, List.getElem?_eq_getElem (by rw [hA.1]; exact h0)⟩
    have h1 := hc 0 x hx 0 (by decide)
    rw [ha] at e
    cases e
    exact World.block_lt_of_cell? w _ (show w.cell? ⟨b, o + 0 * 8 + 0, none⟩ = some (.int .i64 x.x.id) from h1))
  have hmk := run_make_row' (P := Try.prog) 24 3 (.int .i64 0) 8 Try.underlying24 infoN rfl .i64 .i64 n (by omega) (by omega) w
  have O0 := Lib.hid (made_own2 w n hn)
  rw [← numd_zero] at O0
  have B0 := Lib.hid (alloc_below w (.cells (madeCells #[.int .i64 0] n) 3))
  have Z0 := Lib.hid (show w.heap.size + 1 ≤ (w.alloc (.cells (madeCells #[.int .i64 0] n) 3)).heap.size by simp)
  clear hA
  go_enter Try.func12, Try.ntmps12
  go_wp2_with fail
  generalize w.alloc (.cells (madeCells #[.int .i64 0] n) 3) = w0 at *
  clear hmk
  go_loopw [10] (fun i wr => ∃ k : Nat, k ≤ n ∧ i = .int .i64 k ∧ Hid (wr.ownsRow w.heap.size 3 1 (.slice (some ⟨w.heap.size, 0, none⟩) n n) n ((numd n k).flatMap pcells)) ∧ Hid (Below w.heap.size w wr) ∧ Hid (w.heap.size + 1 ≤ wr.heap.size)) (fun i _ => n - (RowKit.intOf i).toNat)
  case atStart => exact ⟨0, Nat.zero_le _, rfl, O0, B0, Z0⟩
  case round =>
    clear O0 B0 Z0
    obtain ⟨k, hk, rfl, OK, BR, ZR⟩ := hrel
    by_cases hlt : k < n
    · have hk3 : (k : Int) < (n : Int) := by omega
      obtain ⟨n1, n2⟩ := numd_next hlt
      have c0 : wr.cell? ⟨w.heap.size, k, none⟩ = some (.int .i64 ((0 : Nat) : Int)) := by
        have := row_cell pcells_len OK.out (numd_len hk) n1 (i := 0) (by decide)
        rwa [Nat.mul_one, Nat.add_zero] at this
      have f0 : wr.frozen? ⟨w.heap.size, k, none⟩ = false := OK.out.frozenAt k
      have ST := Lib.hid (row_store pcells_len OK.out n1 (i := 0) (by decide) (u := .int .i64 (k : Int)) (x' := k) rfl)
      rw [Nat.mul_one, Nat.add_zero, n2] at ST
      have B3 := Lib.hid (BR.out.setCell (p := ⟨w.heap.size, k, none⟩) (Nat.le_refl _) (.int .i64 (k : Int)))
      have Z3 := Lib.hid (show w.heap.size + 1 ≤ (wr.setCell ⟨w.heap.size, k, none⟩ (.int .i64 (k : Int))).heap.size by simpa [World.setCell] using ZR.out)
      clear n1 n2 OK BR ZR
      go_wp2_with fail
      go_roundw
      case rel => exact ⟨k + 1, by omega, by go_num, ST, B3, Z3⟩
      case measure => simp [RowKit.intOf]; omega
    · obtain rfl : k = n := by omega
      have R0 := Lib.hid (HA.out.keep lcells_len BR.out)
      go_wp2_with fail
      refine (by_any p k c wr).mono ?_
      rintro e w2 ⟨rfl, rfl⟩
      have B2 := Lib.hid (BR.out.alloc BR.out.size (.cells #[.slice p k c] 22))
      have R2 := Lib.hid (R0.out.keep lcells_len (alloc_below wr (.cells #[.slice p k c] 22)))
      have O2 := Lib.hid (OK.out.alloc (.cells #[.slice p k c] 22))
      rw [numd_all] at O2
      have X2 := Lib.hid ((Lies.new wr 22 #[.slice p k c]).cell 0)
      have N2 := Lib.hid (show wr.heap.size ≠ w.heap.size by have := ZR.out; omega)
      clear OK BR ZR R0
      generalize wr.heap.size = gb at *
      generalize wr.alloc (.cells #[.slice p k c] 22) = w2 at *
      have F := Lib.hid (fsort_any w.heap.size w.heap.size k gb p k c L w2 O2.out X2.out N2.out R2.out (fun h0 a ha => by have := HP.out h0 a ha; omega) hn)
      clear O2 X2 N2 R2 HP HA
      go_wp2_with fail
      refine F.out.mono ?_
      rintro e w3 ⟨rfl, ho, hg⟩
      have O3 := Lib.hid ho
      have B3 := Lib.hid (B2.out.grown hg B2.out.size (fun b hb => by have := Option.some.inj hb; omega))
      clear ho hg F B2
      go_wp2
      go_ret
      exact ⟨_, rfl, by rw [HS.out]; exact O3.out, B3.out⟩
end Ff
end Go.Proofs.Ytclpdemhfbjliaa
