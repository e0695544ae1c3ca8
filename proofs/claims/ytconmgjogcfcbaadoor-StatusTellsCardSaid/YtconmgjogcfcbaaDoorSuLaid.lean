/- What the condition on the listed variables gives the walks of layer 11: the table and the names; and that the program's own start meets it. -/
import Derived.Test.YtconmgjogcfcbaaDoorRows
import Derived.Test.YtconmgjogcfcbaaDoorSu1
import Derived.ProofKit
import Derived.LaidMore
import Derived.OpenShut
import Derived.ChangeArms
import Derived.Stop.Joined
import Derived.MakeChecks
import Derived.Lib.LaidTab
import Derived.Stop.LaidErr
namespace Go.Proofs.YtconmgjogcfcbaaDoor
open Go.ChangeShapes Go.WideShapes Go.ChangeAt Go.RowKit

namespace Su
/-- An array of texts that reads as such. -/
theorem strs_of {H : Type} {enc : TypeId × Value → H} {P : Program} {w : World} {base : Nat} {sp : Nat → Bool} {held : Bool} {fuel : Nat} {t e : TypeId} {n : Nat} {cs : List Value} {ss : List (List UInt8)} {p : List MemPlace}
    (ht : P.underlying t = some (.array n e)) (he : P.underlying e = some .string) (hce : P.cellsOf e = 1) (h : DataW.trod enc P w base sp held fuel t cs = some (.agg (ss.map fun s => .lit (.string s)), p)) :
    ∀ (i : Nat) (s : List UInt8), ss[i]? = some s → cs[i]? = some (.string ⟨s.toArray⟩) := by
  obtain ⟨xs, m, _, hx, _, hn, hf⟩ := DataW.trod_array ht h
  intro i s hs
  have hl : i < ss.length := (List.getElem?_eq_some_iff.1 hs).1
  have he1 : xs.map (·.1) = ss.map fun s => (DataW.lit (.string s) : DataW H) := by
    have := congrArg Prod.fst hx
    simpa using this.symm
  have hll : xs.length = ss.length := by
    have := congrArg List.length he1
    simpa using this
  have h1 := hf i (by omega)
  have h2 : xs[i]? = some xs[i] := List.getElem?_eq_getElem (by omega)
  rw [h2, hce, Nat.mul_one] at h1
  obtain ⟨b, hb, hy, _⟩ := DataW.trod_string he h1
  have h3 : (xs.map (·.1))[i]? = some (DataW.lit (.string s) : DataW H) := by
    rw [he1]
    simp [hs]
  rw [List.getElem?_map, h2, hy] at h3
  simp only [Option.map_some, Option.some.injEq, DataW.lit.injEq, Lit.string.injEq] at h3
  have h4 : b = ⟨s.toArray⟩ := by
    ext1
    rw [← h3]
  subst h4
  have h5 := congrArg (·[0]?) hb
  simpa using h5
/-- An array of arrays of whole numbers that reads as such. -/
theorem rows_of {H : Type} {enc : TypeId × Value → H} {P : Program} {w : World} {base : Nat} {sp : Nat → Bool} {held : Bool} {fuel : Nat} {t r e : TypeId} {n c : Nat} {k : IntKind} {cs : List Value} {zs : List (List Int)} {p : List MemPlace}
    (ht : P.underlying t = some (.array n r)) (hr : P.underlying r = some (.array c e)) (he : P.underlying e = some (.int k)) (hce : P.cellsOf e = 1) (hcr : P.cellsOf r = c)
    (h : DataW.trod enc P w base sp held fuel t cs = some (.agg (zs.map fun z => Lib.tabData k z), p)) :
    ∀ (i : Nat) (z : List Int), zs[i]? = some z → (cs.drop (i * c)).take c = z.map fun x => Value.int k x := by
  obtain ⟨xs, m, _, hx, _, hn, hf⟩ := DataW.trod_array ht h
  intro i z hz
  have hl : i < zs.length := (List.getElem?_eq_some_iff.1 hz).1
  have he1 : xs.map (·.1) = zs.map fun z => (Lib.tabData k z : DataW H) := by
    have := congrArg Prod.fst hx
    simpa using this.symm
  have hll : xs.length = zs.length := by
    have := congrArg List.length he1
    simpa using this
  have h1 := hf i (by omega)
  have h2 : xs[i]? = some xs[i] := List.getElem?_eq_getElem (by omega)
  rw [h2, hcr] at h1
  have h3 : (xs.map (·.1))[i]? = some (Lib.tabData k z : DataW H) := by
    rw [he1]
    simp [hz]
  rw [List.getElem?_map, h2] at h3
  simp only [Option.map_some, Option.some.injEq] at h3
  have h4 : xs[i] = (Lib.tabData k z, xs[i].2) := by rw [← h3]
  rw [h4] at h1
  exact Lib.cells_of_tab hr he hce hcr h1
end Su

theorem own : ownKnob Tryd.prog.godebug = none := by kernel_rfl

/-- The two variables, and what they hold. -/
def vars : List (String × DataW Unit) := [("hoarfrost/status.table", Rows.laid_hoarfrost_status_table), ("hoarfrost/status.names", Rows.laid_hoarfrost_status_names)]

theorem door_met (os : Os) (args : Array Value) : laidMetH Tryd.prog vars ((World.doorLaid Tryd.prog 400 os).forCall (fun _ _ => 0) ⟨#[], args, []⟩).memory :=
  laidMetH_of_parts3 (fuel := 8) (laidMet_of_run' 8 (by kernel_rfl) (by kernel_rfl)) (by kernel_rfl) (by kernel_rfl)

def tabRows : List (List Int) := [[1, 2, -1, 3, -1], [-1, 2, -1, 3, 4], [-1, 2, 1, 3, -1], [-1, -1, -1, -1, -1], [-1, -1, -1, -1, -1]]
theorem table_eq : (Rows.laid_hoarfrost_status_table : DataW Unit) = .agg (tabRows.map fun z => Lib.tabData .i64 z) := by
  unfold Rows.laid_hoarfrost_status_table Lib.tabData tabRows
  rfl
theorem names_eq : (Rows.laid_hoarfrost_status_names : DataW Unit) = .agg ([Su.nm0.data.toList, Su.nm1.data.toList, Su.nm2.data.toList, Su.nm3.data.toList, Su.nm4.data.toList].map fun s => .lit (.string s)) := by
  unfold Rows.laid_hoarfrost_status_names Su.nm0 Su.nm1 Su.nm2 Su.nm3 Su.nm4
  rfl
theorem ready_of_laid {W : World} (h : laidMetH Tryd.prog vars W) : Su.Ready W := by
  rw [MakeChecks.laidMetH_plain _ _ _ (by kernel_rfl)] at h
  obtain ⟨_, ⟨g1, t1, cs1, f1, p1, q1, hg1, ht1, hv1, hd1, hq1, _⟩, _⟩ := h
  obtain ⟨g2, t2, cs2, f2, p2, q2, hg2, ht2, hv2, hd2, _, _⟩ := hq1
  have e1 : g1 = 0 := Option.some.inj (hg1.symm.trans (show Tryd.prog.globalNamed "hoarfrost/status.table" = some 0 by kernel_rfl))
  have e2 : g2 = 1 := Option.some.inj (hg2.symm.trans (show Tryd.prog.globalNamed "hoarfrost/status.names" = some 1 by kernel_rfl))
  subst e1 e2
  have y1 : t1 = 38 := Option.some.inj (ht1.symm.trans (by kernel_rfl))
  have y2 : t2 = 39 := Option.some.inj (ht2.symm.trans (by kernel_rfl))
  subst y1 y2
  rw [table_eq] at hd1
  rw [names_eq] at hd2
  have R := Su.rows_of (n := 5) (c := 5) Tryd.underlying38 Tryd.underlying37 Tryd.underlying22 (by kernel_rfl) (by kernel_rfl) hd1
  have S := Su.strs_of (n := 5) Tryd.underlying39 Tryd.underlying9 (by kernel_rfl) hd2
  have C1 : ∀ i v, cs1.toList[i]? = some v → W.cell? ⟨0, i, none⟩ = some v := fun i v hi => by
    have := World.var?_cell hg1 hv1 i
    rw [this]
    simpa using hi
  have C2 : ∀ i v, cs2.toList[i]? = some v → W.cell? ⟨1, i, none⟩ = some v := fun i v hi => by
    have := World.var?_cell hg2 hv2 i
    rw [this]
    simpa using hi
  have T : ∀ i, i < 25 → W.cell? ⟨0, i, none⟩ = some (.int .i64 (Su.tab.getD i (-1))) := fun i hi => by
    refine C1 i _ ?_
    obtain ⟨z, hz⟩ : ∃ z, tabRows[i / 5]? = some z := ⟨_, List.getElem?_eq_getElem (by show i / 5 < 5; omega)⟩
    have h1 := congrArg (·[i % 5]?) (R _ z hz)
    have h5 : i % 5 < 5 := Nat.mod_lt _ (by decide)
    simp only [List.getElem?_take, h5, if_true, List.getElem?_drop, List.getElem?_map] at h1
    have hi' : i / 5 * 5 + i % 5 = i := by omega
    rw [hi'] at h1
    rw [h1]
    have hA : ∀ j, j < 25 → ((tabRows[j / 5]?).bind (·[j % 5]?)) = some (Su.tab.getD j (-1)) := by decide
    have := hA i hi
    rw [hz] at this
    simp only [Option.bind_some] at this
    rw [this]
    rfl
  have N : ∀ (i : Nat) (s : ByteArray), [Su.nm0.data.toList, Su.nm1.data.toList, Su.nm2.data.toList, Su.nm3.data.toList, Su.nm4.data.toList][i]? = some s.data.toList → W.cell? ⟨1, i, none⟩ = some (.string s) := fun i s hs => by
    refine C2 i _ ?_
    have := S i _ hs
    simpa using this
  have lt1 : 0 < W.heap.size := block_lt_of_cell (T 0 (by decide))
  have lt2 : 1 < W.heap.size := block_lt_of_cell (N 0 Su.nm0 rfl)
  exact ⟨fun w' hb i hi => (hb.cell (p := ⟨0, i, none⟩) lt1).trans (T i hi),
    fun w' hb => (hb.cell (p := ⟨1, 0, none⟩) lt2).trans (N 0 _ rfl),
    fun w' hb => (hb.cell (p := ⟨1, 1, none⟩) lt2).trans (N 1 _ rfl),
    fun w' hb => (hb.cell (p := ⟨1, 2, none⟩) lt2).trans (N 2 _ rfl),
    fun w' hb => (hb.cell (p := ⟨1, 3, none⟩) lt2).trans (N 3 _ rfl),
    fun w' hb => (hb.cell (p := ⟨1, 4, none⟩) lt2).trans (N 4 _ rfl)⟩
end Go.Proofs.YtconmgjogcfcbaaDoor
