/- What the condition on the listed variables gives the walks of layer 11: the table, where the names are not reached; and that the program's own start meets it. -/
import Derived.Test.YtgmjmkkhoibbcaaDoorRows
import Derived.Test.YtgmjmkkhoibbcaaDoorSuT
import Derived.ProofKit
import Derived.LaidMore
import Derived.OpenShut
import Derived.ChangeArms
import Derived.Stop.Joined
import Derived.MakeChecks
import Derived.Lib.LaidTab
import Derived.Stop.LaidErr
namespace Go.Proofs.YtgmjmkkhoibbcaaDoor
open Go.ChangeShapes Go.WideShapes Go.ChangeAt Go.RowKit

namespace Su
/-- An array of arrays of whole numbers that reads as such. -/
theorem rows_of {H : Type} {enc : TypeId × Value → H} {P : Program} {w : World} {base : Nat} {sp : Nat → Bool} {held : Bool} {fuel : Nat} {t r e : TypeId} {n c : Nat} {k : IntKind} {cs : List Value} {zs : List (List Int)} {p : List MemPlace}
    (ht : P.underlying t = some (.array n r)) (hr : P.underlying r = some (.array c e)) (he : P.underlying e = some (.int k)) (hce : P.cellsOf e = 1) (hcr : P.cellsOf r = c)
    (h : DataW.trod enc P w base sp held fuel t cs = some (.agg (zs.map fun z => Lib.tabData k z), p)) :
    ∀ (i : Nat) (z : List Int), zs[i]? = some z → (cs.drop (i * c)).take c = z.map fun x => Value.int k x := by
  obtain ⟨xs, m, _, hx, _, hn, hf⟩ := DataW.trod_array ht h
  intro i z hz
  have hl : i < zs.length := (List.getElem?_eq_some_iff.1 hz).1
  have he1 : xs.map (·.1) = zs.map fun z => (Lib.tabData k z : DataW H) := by
    have := congrArg Prod.fst hx
    simpa using this.symm
  have hll : xs.length = zs.length := by
    have := congrArg List.length he1
    simpa using this
  have h1 := hf i (by omega)
  have h2 : xs[i]? = some xs[i] := List.getElem?_eq_getElem (by omega)
  rw [h2, hcr] at h1
  have h3 : (xs.map (·.1))[i]? = some (Lib.tabData k z : DataW H) := by
    rw [he1]
    simp [hz]
  rw [List.getElem?_map, h2] at h3
  simp only [Option.map_some, Option.some.injEq] at h3
  have h4 : xs[i] = (Lib.tabData k z, xs[i].2) := by rw [← h3]
  rw [h4] at h1
  exact Lib.cells_of_tab hr he hce hcr h1
end Su

theorem own : ownKnob Tryd.prog.godebug = none := by kernel_rfl

/-- The variable, and what it holds. -/
def vars : List (String × DataW Unit) := [("hoarfrost/status.table", Rows.laid_hoarfrost_status_table)]

theorem door_met (os : Os) (args : Array Value) : laidMetH Tryd.prog vars ((World.doorLaid Tryd.prog 400 os).forCall (fun _ _ => 0) ⟨#[], args, []⟩).memory :=
  laidMetH_of_parts3 (fuel := 8) (laidMet_of_run' 8 (by kernel_rfl) (by kernel_rfl)) (by kernel_rfl) (by kernel_rfl)

def tabRows : List (List Int) := [[1, 2, -1, 3, -1], [-1, 2, -1, 3, 4], [-1, 2, 1, 3, -1], [-1, -1, -1, -1, -1], [-1, -1, -1, -1, -1]]
theorem table_eq : (Rows.laid_hoarfrost_status_table : DataW Unit) = .agg (tabRows.map fun z => Lib.tabData .i64 z) := by
  unfold Rows.laid_hoarfrost_status_table Lib.tabData tabRows
  rfl
theorem ready_of_laid {W : World} (h : laidMetH Tryd.prog vars W) : Su.Tabl W := by
  rw [MakeChecks.laidMetH_plain _ _ _ (by kernel_rfl)] at h
  obtain ⟨_, ⟨g1, t1, cs1, f1, p1, q1, hg1, ht1, hv1, hd1, _, _⟩, _⟩ := h
  have e1 : g1 = 0 := Option.some.inj (hg1.symm.trans (show Tryd.prog.globalNamed "hoarfrost/status.table" = some 0 by kernel_rfl))
  subst e1
  have y1 : t1 = 68 := Option.some.inj (ht1.symm.trans (by kernel_rfl))
  subst y1
  rw [table_eq] at hd1
  have R := Su.rows_of (n := 5) (c := 5) Tryd.underlying68 Tryd.underlying67 Tryd.underlying24 (by kernel_rfl) (by kernel_rfl) hd1
  have C1 : ∀ i v, cs1.toList[i]? = some v → W.cell? ⟨0, i, none⟩ = some v := fun i v hi => by
    have := World.var?_cell hg1 hv1 i
    rw [this]
    simpa using hi
  have T : ∀ i, i < 25 → W.cell? ⟨0, i, none⟩ = some (.int .i64 (Su.tab.getD i (-1))) := fun i hi => by
    refine C1 i _ ?_
    obtain ⟨z, hz⟩ : ∃ z, tabRows[i / 5]? = some z := ⟨_, List.getElem?_eq_getElem (by show i / 5 < 5; omega)⟩
    have h1 := congrArg (·[i % 5]?) (R _ z hz)
    have h5 : i % 5 < 5 := Nat.mod_lt _ (by decide)
    simp only [List.getElem?_take, h5, if_true, List.getElem?_drop, List.getElem?_map] at h1
    have hi' : i / 5 * 5 + i % 5 = i := by omega
    rw [hi'] at h1
    rw [h1]
    have hA : ∀ j, j < 25 → ((tabRows[j / 5]?).bind (·[j % 5]?)) = some (Su.tab.getD j (-1)) := by decide
    have := hA i hi
    rw [hz] at this
    simp only [Option.bind_some] at this
    rw [this]
    rfl
  have lt1 : 0 < W.heap.size := block_lt_of_cell (T 0 (by decide))
  exact ⟨fun w' hb i hi => (hb.cell (p := ⟨0, i, none⟩) lt1).trans (T i hi)⟩
end Go.Proofs.YtgmjmkkhoibbcaaDoor
