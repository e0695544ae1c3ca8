/- The bundle of package command over the landed code; what the condition on the listed variable gives; the laws over arguments that came in. Conditions: those written. -/
import Derived.Test.YtbahilakfgbgpaaDoorCmP
import Derived.Test.YtbahilakfgbgpaaDoorCmPc
import Derived.Test.YtbahilakfgbgpaaDoorCmPe
import Derived.Test.YtbahilakfgbgpaaDoorRows
import Derived.ProofKit
import Derived.LaidMore
import Derived.OpenShut
import Derived.ChangeArms
import Derived.Stop.Joined
import Derived.MakeChecks
import Derived.Lib.LaidTab
import Derived.Stop.LaidErr
namespace Go.Proofs.YtbahilakfgbgpaaDoor
open Go.ChangeShapes Go.WideShapes Go.ChangeAt Go.RowKit

namespace Cm
/-- Package command, as landed. -/
def cface : Face where
  R := Tabl
  on := Tabl.on
  num := fun k w hr _ => pnum_any k w hr
  right := fun y w hr hB _ _ hn => pright_any y w hr hB.len hn
  enc := fun y w hr hB _ _ hn => penc_any y w hr hB hn
  dec := fun p n c l w hr hA hn _ => pdec_any p n c l w hr hA hn
  same := fun y z w _ hy hz _ _ => psame_any y z w hy hz
theorem ctells_in (v0 : Value) (x0 : Cv) (v1 : Value) (x1 : Cv) (v2 : Value) (x2 : Bs) (W : World) (h0 : InM W v0 x0) (h1 : InM W v1 x1) (h2 : InB W v2 x2) (hR : Tabl W) :
    Calls Tryd.prog 3 #[v0, v1, v2] W fun e w' => e = .returned (.bool true) ∧ Below W.heap.size W w' := tells_all cface v0 x0 v1 x1 v2 x2 W h0 h1 h2 hR
theorem cback_in (v0 : Value) (x0 : Cv) (v1 : Value) (x1 : Bs) (v2 : Value) (x2 : Int) (W : World) (h0 : InM W v0 x0) (h1 : InB W v1 x1) (h2 : InI .u8 v2 x2) (hR : Tabl W) :
    Calls Tryd.prog 4 #[v0, v1, v2] W fun e w' => e = .returned (.bool true) ∧ Below W.heap.size W w' := back_all cface v0 x0 v1 x1 v2 x2 W h0 h1 h2 hR
end Cm
theorem own : ownKnob Tryd.prog.godebug = none := by kernel_rfl

/-- The variable, and what it holds. -/
def vars : List (String × DataW Unit) := [("hoarfrost/command.counts", Rows.laid_hoarfrost_command_counts)]

theorem door_met (os : Os) (args : Array Value) : laidMetH Tryd.prog vars ((World.doorLaid Tryd.prog 400 os).forCall (fun _ _ => 0) ⟨#[], args, []⟩).memory :=
  laidMetH_of_parts3 (fuel := 8) (laidMet_of_run' 8 (by kernel_rfl) (by kernel_rfl)) (by kernel_rfl) (by kernel_rfl)

theorem ready_of_laid {W : World} (h : laidMetH Tryd.prog vars W) : Cm.Tabl W := by
  rw [MakeChecks.laidMetH_plain _ _ _ (by kernel_rfl)] at h
  obtain ⟨_, ⟨g1, t1, cs1, f1, p1, q1, hg1, ht1, hv1, hd1, _, _⟩, _⟩ := h
  have e1 : g1 = 0 := Option.some.inj (hg1.symm.trans (show Tryd.prog.globalNamed "hoarfrost/command.counts" = some 0 by kernel_rfl))
  subst e1
  have y1 : t1 = 60 := Option.some.inj (ht1.symm.trans (by kernel_rfl))
  subst y1
  have C := Lib.cells_of_tab (zs := [0, 1, 5, 3, 4, 2, 2, 2, 1, 1, 2, 1, 2, 1, 1, 1]) Tryd.underlying60 Tryd.underlying3 (by kernel_rfl) (by kernel_rfl) hd1
  refine Cm.Tabl.of_cells fun i hi => ?_
  have h1 := World.var?_cell hg1 hv1 i
  rw [h1]
  have h2 := congrArg (·[i]?) C
  simp only [List.getElem?_map] at h2
  have hA : ∀ j : Nat, j < 16 → ([0, 1, 5, 3, 4, 2, 2, 2, 1, 1, 2, 1, 2, 1, 1, 1] : List Int)[j]? = some (Cm.cnt j) := by decide
  rw [hA i hi] at h2
  simpa using h2
end Go.Proofs.YtbahilakfgbgpaaDoor
