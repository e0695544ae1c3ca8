/- Walks over package master's table of Products: the one of a number. No condition but those written. -/
import Derived.Test.YtpceoklacpcfkaaMsP1
namespace Go.Proofs.Ytpceoklacpcfkaa
open Go.RowKit Go.Maps

namespace Ms
theorem infoTP : (Try.prog.info? 36).map (fun i => (i.zero, i.size, i.bytes)) = some (some (.agg #[.int .i64 0, .int .i64 0, .int .i64 0]), 3, 24) := by kernel_rfl
theorem tlookP {w : World} {B : Nat} {mo : Option Nat} {S : List Pd} (ht : Tab Pf Pd.id w B mo S) {m : Int} (hm : In64 m) (W : World) (hW : Below w.heap.size w W) :
    (Instr.lookup 50 (.map mo) (.int .i64 m) true).run Try.prog W = .ok (.tuple #[pval ((findK Pd.id m S).getD pd0), .bool (findK Pd.id m S).isSome]) W := by
  rcases ht with ⟨rfl, rfl⟩ | ⟨b, D, rfl, _, hown, hM⟩
  · rw [Maps.look_nil true lawI Try.underlying50 (zeroP W) (key_of hm)]
    rfl
  · exact look Try.underlying50 pd0 zeroP hown hM hm W (hW.block b hown.lt)
set_option maxRecDepth 100000 in
set_option maxHeartbeats 4000000 in
/-- The one of a number. -/
theorem trowP (B h : Nat) (mz mp : Option Nat) (S : List Pd) (m : Int) (w : World) (hl : Lies w h 54 #[.map mz, .map mp]) (ht : Tab Pf Pd.id w B mp S) (hm : In64 m) :
    Calls Try.prog 26 #[.pointer (some ⟨h, 1, none⟩), .int .i64 m] w fun e w' =>
      e = .returned (.tuple #[pval (getK (findK Pd.id m S) pd0).1, .int .i64 ((getK (findK Pd.id m S) pd0).2 : Nat)]) ∧ Below w.heap.size w w' := by
  have K := fun W hW => tlookP ht hm W hW
  generalize findK Pd.id m S = o at *
  have B1 := Lib.hid (alloc_below w (.cells #[.int .i64 0, .int .i64 0, .int .i64 0] 36))
  have L1 := Lib.hid (hl.alloc (.cells #[.int .i64 0, .int .i64 0, .int .i64 0] 36))
  have X1 := Lib.hid (Lies.new w 36 #[.int .i64 0, .int .i64 0, .int .i64 0])
  have HS : Hid (w.heap.size < (w.alloc (.cells #[.int .i64 0, .int .i64 0, .int .i64 0] 36)).heap.size) := Lib.hid (by simp)
  obtain ⟨w1, hw1⟩ : ∃ w1, w.alloc (.cells #[.int .i64 0, .int .i64 0, .int .i64 0] 36) = w1 := ⟨_, rfl⟩
  rw [hw1] at B1 L1 X1 HS
  have k1 := K w1 B1.out
  have l0 : w1.cell? ⟨h, 1, none⟩ = some (.map mp) := L1.out.cell 1
  have FC : ∀ ob i, (w1.alloc ob).cell? ⟨w.heap.size, i, none⟩ = w1.cell? ⟨w.heap.size, i, none⟩ := fun ob i => (alloc_below w1 ob).cell (p := ⟨w.heap.size, i, none⟩) HS.out
  have FG : ∀ ob i, (w1.alloc ob).frozen? ⟨w.heap.size, i, none⟩ = w1.frozen? ⟨w.heap.size, i, none⟩ := fun ob i => (alloc_below w1 ob).frozen (p := ⟨w.heap.size, i, none⟩) HS.out
  clear K ht hm hl
  have r0 : w1.cell? ⟨w.heap.size, 0, none⟩ = some (.int .i64 0) := X1.out.cell 0
  have g0 := X1.out.frozen 0
  have r1 : w1.cell? ⟨w.heap.size, 1, none⟩ = some (.int .i64 0) := X1.out.cell 1
  have g1 := X1.out.frozen 1
  have r2 : w1.cell? ⟨w.heap.size, 2, none⟩ = some (.int .i64 0) := X1.out.cell 2
  have g2 := X1.out.frozen 2
  cases o with
  | none =>
    simp only [Option.getD_none, Option.isSome_none, pd0, pval] at k1
    go_enter Try.func26, Try.ntmps26
    go_wp2
    refine bodyPost_ret (v := .tuple #[pval pd0, .int .i64 5]) (by simp [results, Try.results26, go_sem, pval, pd0, r0, r1, r2, FC]) rfl ⟨rfl, ?_⟩
    iterate 3 refine Below.setCell ?_ (show w.heap.size ≤ _ from Nat.le_refl _) _
    exact B1.out.alloc B1.out.size _
  | some y =>
    obtain ⟨a, b, c⟩ := y
    simp only [Option.getD_some, Option.isSome_some, pval] at k1
    go_enter Try.func26, Try.ntmps26
    go_wp2
    refine bodyPost_ret (v := .tuple #[pval ⟨a, b, c⟩, .int .i64 0]) (by simp [results, Try.results26, go_sem, pval, r0, r1, r2, FC]) rfl ⟨rfl, ?_⟩
    iterate 3 refine Below.setCell ?_ (show w.heap.size ≤ _ from Nat.le_refl _) _
    exact B1.out.alloc B1.out.size _
end Ms
end Go.Proofs.Ytpceoklacpcfkaa
