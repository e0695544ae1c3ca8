/- Marks that a call owns, sorted. No condition but those written. -/
import Derived.Test.YtfdakkghikimcaaDrP1
import Derived.Test.YtfdakkghikimcaaSort
namespace Go.Proofs.Ytfdakkghikimcaa
open Go.RowKit Go.Sort

namespace Dr
open Se
instance : Inhabited Rd := ⟨zero⟩
theorem mcells_one (x : Rd) : ∀ v ∈ mcells x, v.oneCell' = true := by
  intro v hv
  simp only [mcells, List.mem_cons, List.not_mem_nil, or_false] at hv
  rcases hv with rfl | rfl | rfl <;> rfl
theorem flatK_list (d : Array Rd) : (flatK mcells 3 d).toList = d.toList.flatMap mcells := by
  apply List.ext_getElem?
  intro j
  by_cases hj : j < d.size * 3
  · have hq : j / 3 < d.size := by omega
    have h1 := get_flatK mcells 3 d j hj
    have h2 : d.toList[j / 3]? = some d[j / 3] := by simp [hq]
    have h3 := flat_at mcells_len d.toList (j / 3) (j % 3) d[j / 3] h2 (Nat.mod_lt _ (by decide))
    rw [show j / 3 * 3 + j % 3 = j by omega] at h3
    rw [h3, Array.getElem?_toList, Array.getElem?_eq_getElem (by simpa using hj)]
    rw [getElem!_pos _ j (by simpa using hj), getElem!_pos d _ hq] at h1
    rw [h1, List.getElem?_eq_getElem (by rw [mcells_len]; exact Nat.mod_lt _ (by decide)), getElem!_pos]
  · rw [List.getElem?_eq_none (by simp; omega), List.getElem?_eq_none (by rw [flat_len mcells_len]; simp; omega)]
theorem heap_put {w : World} {g n : Nat} {os : Array Obj} {cur : Array Value} {e : TypeId} {fr : Nat × Nat} (F : Array Value) (hb : w.heap[g]? = some (.cells cur e fr)) :
    (grow (putRow id (Sort.ahead w n) g 0 F) os).heap[g]? = some (.cells (putCells id 0 F cur) e fr) := by
  have hg : g < w.heap.size := (Array.getElem?_eq_some_iff.1 hb).1
  rw [heap_grow_old _ _ (by simpa using hg)]
  simp [putRow, mapBlock, Sort.ahead, Array.getElem?_modify, hb, onCells]
theorem grown_put {w : World} {g n : Nat} {os : Array Obj} (F : Array Value) : w.grownBy (grow (putRow id (Sort.ahead w n) g 0 F) os) (some g) := by
  refine ⟨rfl, rfl, rfl, by simp, fun k hk hne => ?_⟩
  rw [heap_grow_old _ _ (by simpa using hk)]
  have : g ≠ k := fun e => hne (by rw [e])
  simp [putRow, mapBlock, Sort.ahead, Array.getElem?_modify, this]
theorem take_put (cur F : Array Value) (h : F.size ≤ cur.size) : (putCells id 0 F cur).toList.take F.size = F.toList := by
  apply List.ext_getElem?
  intro j
  by_cases hj : j < F.size
  · rw [List.getElem?_take_of_lt hj, Array.getElem?_toList]
    simp [putCells, hj, show j < cur.size by omega]
  · rw [List.getElem?_take_eq_none (by omega), List.getElem?_eq_none (by simp; omega)]
theorem cmp_lt (x y : Rd) : ltOf (fun x y : Rd => cmpP x.min x.seq y.min y.seq) x y = decide (lt x y) := by
  unfold ltOf
  rw [cmpP_neg]
  rfl
theorem cmp_swo : SWO (ltOf (fun x y : Rd => cmpP x.min x.seq y.min y.seq)) where
  irrefl x := by
    rw [cmp_lt]
    simp [lt_irrefl]
  trans x y z h1 h2 := by
    rw [cmp_lt] at *
    simp only [decide_eq_true_eq] at *
    exact lt_trans h1 h2
  ntrans x y z h1 h2 := by
    rw [cmp_lt] at *
    simp only [decide_eq_false_iff_not] at *
    unfold lt at *
    omega
theorem aggM (w : World) : (isAgg 31).run Try.prog w = .ok true w := by kernel_rfl
theorem sizeM (w : World) : (Go.sizeOf 31).run Try.prog w = .ok 3 w := by kernel_rfl
set_option maxHeartbeats 1000000 in
/-- The marks of a row are sorted. -/
theorem psort_any (B g cap : Nat) (acc : List Rd) (w : World) (hown : w.ownsRow B 31 3 (.slice (some ⟨g, 0, none⟩) acc.length cap) acc.length (acc.flatMap mcells)) (hL : acc.length ≤ 1000000) :
    Calls Try.prog 22 #[.slice (some ⟨g, 0, none⟩) acc.length cap, .func (.func 23) #[] #[]] w fun e w' =>
      e = .returned (.tuple #[]) ∧ ∃ L : List Rd, L.Perm acc ∧ L.Pairwise (fun a b => ¬ lt b a) ∧ w'.ownsRow B 31 3 (.slice (some ⟨g, 0, none⟩) acc.length cap) acc.length (L.flatMap mcells) ∧ w.grownBy w' (some g) := by
  rcases hown.2 with ⟨h0, _⟩ | ⟨g', cap', cur, hv, hbase, hb, h1, h2, h3, h4⟩
  · cases h0
  cases hv
  have hH : HoldsK mcells 3 w g 0 acc.toArray := by
    intro j hj
    have hj' : j < acc.length * 3 := by simpa using hj
    refine ⟨?_, by simp [World.frozen?, hb]⟩
    have e1 : (cur.toList.take (acc.length * 3))[j]? = (acc.flatMap mcells)[j]? := by rw [h4]
    rw [List.getElem?_take_of_lt hj'] at e1
    have e2 := flatK_list acc.toArray
    change _ = acc.flatMap mcells at e2
    rw [← e2] at e1
    simp only [World.cell?, hb, Nat.zero_add]
    simp only [Option.isSome_none, Bool.false_eq_true, if_false]
    rw [← Array.getElem?_toList, e1, Array.getElem?_toList, Array.getElem?_eq_getElem hj, getElem!_pos _ j hj]
    rfl
  have eg : ∀ args w, (callFunc 23 args).run Try.prog w = .ok (.enter 23 args) w := enters_of Try.func23 (by kernel_rfl) rfl
  have hcmp : CmpLays Try.prog 23 #[] mcells 3 (fun x y : Rd => cmpP x.min x.seq y.min y.seq) g 0 acc.toArray.size w := fun _ _ _ _ x y => clos_any x y _
  have hcon := AnyQ.slices_SortFunc Try.sortMk 3 aggM sizeM mcells mcells_len mcells_one (fun x y : Rd => cmpP x.min x.seq y.min y.seq) cmp_swo 23 #[] g 0 cap acc.toArray w eg hcmp hH (Array.getElem?_eq_some_iff.1 hb).1 (by simp; omega)
  simp only [List.size_toArray] at hcon
  refine hcon.mono fun e w' ⟨he, d', n, os, hp, hs, hw⟩ => ⟨he, d'.toList, ?_, ?_, ?_, ?_⟩
  · have := hp.2.2
    have hsz := hp.1
    simp only [List.size_toArray] at hsz
    rw [Array.extract_eq_self_of_le (by omega), Array.extract_eq_self_of_le (by simp)] at this
    simpa using this
  · have hsz := hp.1
    simp only [List.size_toArray] at hsz
    rw [List.pairwise_iff_getElem]
    intro i j hi hj hij
    have h5 := hs i j (Nat.zero_le _) hij (by simpa [hsz] using hj)
    rw [cmp_lt, decide_eq_false_iff_not] at h5
    simp only [Array.length_toList] at hi hj
    rw [getElem!_pos d' i hi, getElem!_pos d' j hj] at h5
    simpa using h5
  · have hsz := hp.1
    simp only [List.size_toArray] at hsz
    rw [hw]
    refine ⟨by rw [flat_len mcells_len]; simp [hsz], .inr ⟨g, cap, _, rfl, hbase, heap_put _ hb, h1, h2, by simp [putCells, h3], ?_⟩⟩
    have := take_put cur (flatK mcells 3 d') (by simp [hsz, h3]; omega)
    rw [flatK_list] at this
    rw [← this]
    simp [hsz]
  · rw [hw]
    exact grown_put _
end Dr
end Go.Proofs.Ytfdakkghikimcaa
