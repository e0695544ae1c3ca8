/- What the condition on the listed variables gives the walks of layer 1: the table of powers of ten and the variable ErrSyntax; and that the program's own start meets it. -/
import Derived.Test.YtigohcfedmefbaaDoorRows
import Derived.Test.YtigohcfedmefbaaDoorW2
import Derived.ProofKit
import Derived.LaidMore
import Derived.OpenShut
import Derived.Stop.Joined
import Derived.MakeChecks
import Derived.Lib.LaidTab
import Derived.Stop.LaidErr
namespace Go.Proofs.YtigohcfedmefbaaDoor
open Go.ChangeShapes Go.WideShapes Go.ChangeAt Go.RowKit

theorem own : ownKnob Tryd.prog.godebug = none := by kernel_rfl

/-- The five variables, and what they hold. -/
def five : List (String × DataW Unit) := [("math/bits.deBruijn32tab", Rows.laid_math_bits_deBruijn32tab), ("math/bits.deBruijn64tab", Rows.laid_math_bits_deBruijn64tab), ("internal/strconv.uint64pow10", Rows.laid_internal_strconv_uint64pow10), ("strconv.ErrRange", Rows.laid_strconv_ErrRange), ("strconv.ErrSyntax", Rows.laid_strconv_ErrSyntax)]

theorem door_met (os : Os) (args : Array Value) : laidMetH Tryd.prog five ((World.doorLaid Tryd.prog 400 os).forCall (fun _ _ => 0) ⟨#[], args, []⟩).memory :=
  laidMetH_of_parts3 (fuel := 8) (laidMet_of_run' 8 (by kernel_rfl) (by kernel_rfl)) (by kernel_rfl) (by kernel_rfl)

theorem pow_eq : (Rows.laid_internal_strconv_uint64pow10 : DataW Unit) = Lib.tabData .u64 Lib.pow10Tab := by
  unfold Rows.laid_internal_strconv_uint64pow10 Lib.tabData Lib.pow10Tab
  rfl
theorem row69 : ∀ u, Tryd.prog.typeName? 3 u = some "*errors.errorString" → u = 69 :=
  typeName_ptr_named (nm := "errors.errorString") (by kernel_rfl) (by kernel_rfl) (by decide)

theorem ready_of_laid {W : World} (h : laidMetH Tryd.prog five W) : Ready W := by
  rw [MakeChecks.laidMetH_plain _ _ _ (by kernel_rfl)] at h
  have h1 : laidMet Tryd.prog (("internal/strconv.uint64pow10", Lib.tabData .u64 Lib.pow10Tab) :: [("strconv.ErrRange", Rows.laid_strconv_ErrRange), ("strconv.ErrSyntax", Rows.laid_strconv_ErrSyntax)]) W := pow_eq ▸ h.tail.tail
  have hT : Lib.TabIs Tryd.prog W "internal/strconv.uint64pow10" .u64 Lib.pow10Tab :=
    Lib.tabIs_of_head (g := 3) (t := 81) (e := 22) (n := 20) (by kernel_rfl) (by kernel_rfl) Tryd.underlying81 Tryd.underlying22 (by kernel_rfl) (by kernel_rfl) h1
  obtain ⟨a, s, hv, hc, -, -⟩ := laid_sentinel (g := 1) h1.tail.tail (by kernel_rfl) (by kernel_rfl) Tryd.underlying42 row69 Tryd.underlying69 Tryd.underlying71 rfl rfl Tryd.underlying9 (by kernel_rfl) (by kernel_rfl)
  have hcell : W.cell? ⟨1, 0, none⟩ = some (.iface 69 (.pointer (some a))) := by
    have hg : Tryd.prog.globalNamed "strconv.ErrSyntax" = some 1 := by kernel_rfl
    simpa using World.var?_cell hg hv 0
  refine ⟨Lib.tabBelow_of_tabIs hT, 69, .pointer (some a), fun w' hb => ?_⟩
  exact (hb.cell (p := ⟨1, 0, none⟩) (block_lt_of_cell hcell)).trans hcell
end Go.Proofs.YtigohcfedmefbaaDoor
