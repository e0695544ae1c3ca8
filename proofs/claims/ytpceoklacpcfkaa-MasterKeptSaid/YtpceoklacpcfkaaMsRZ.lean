/- Walks over package master's table of Zones: the one of a number. No condition but those written. -/
import Derived.Test.YtpceoklacpcfkaaMsP1
namespace Go.Proofs.Ytpceoklacpcfkaa
open Go.RowKit Go.Maps

namespace Ms
theorem infoTZ : (Try.prog.info? 33).map (fun i => (i.zero, i.size, i.bytes)) = some (some (.agg #[.int .i64 0, .int .i64 0, .int .i64 0, .int .i64 0, .bool false, .int .i64 0]), 6, 48) := by kernel_rfl
theorem tlookZ {w : World} {B : Nat} {mo : Option Nat} {S : List Zn} (ht : Tab Zf Zn.id w B mo S) {m : Int} (hm : In64 m) (W : World) (hW : Below w.heap.size w W) :
    (Instr.lookup 47 (.map mo) (.int .i64 m) true).run Try.prog W = .ok (.tuple #[zval ((findK Zn.id m S).getD zn0), .bool (findK Zn.id m S).isSome]) W := by
  rcases ht with ⟨rfl, rfl⟩ | ⟨b, D, rfl, _, hown, hM⟩
  · rw [Maps.look_nil true lawI Try.underlying47 (zeroZ W) (key_of hm)]
    rfl
  · exact look Try.underlying47 zn0 zeroZ hown hM hm W (hW.block b hown.lt)
set_option maxRecDepth 100000 in
set_option maxHeartbeats 4000000 in
/-- The one of a number. -/
theorem trowZ (B h : Nat) (mz mp : Option Nat) (S : List Zn) (m : Int) (w : World) (hl : Lies w h 54 #[.map mz, .map mp]) (ht : Tab Zf Zn.id w B mz S) (hm : In64 m) :
    Calls Try.prog 25 #[.pointer (some ⟨h, 0, none⟩), .int .i64 m] w fun e w' =>
      e = .returned (.tuple #[zval (getK (findK Zn.id m S) zn0).1, .int .i64 ((getK (findK Zn.id m S) zn0).2 : Nat)]) ∧ Below w.heap.size w w' := by
  have K := fun W hW => tlookZ ht hm W hW
  generalize findK Zn.id m S = o at *
  have B1 := Lib.hid (alloc_below w (.cells #[.int .i64 0, .int .i64 0, .int .i64 0, .int .i64 0, .bool false, .int .i64 0] 33))
  have L1 := Lib.hid (hl.alloc (.cells #[.int .i64 0, .int .i64 0, .int .i64 0, .int .i64 0, .bool false, .int .i64 0] 33))
  have X1 := Lib.hid (Lies.new w 33 #[.int .i64 0, .int .i64 0, .int .i64 0, .int .i64 0, .bool false, .int .i64 0])
  have HS : Hid (w.heap.size < (w.alloc (.cells #[.int .i64 0, .int .i64 0, .int .i64 0, .int .i64 0, .bool false, .int .i64 0] 33)).heap.size) := Lib.hid (by simp)
  obtain ⟨w1, hw1⟩ : ∃ w1, w.alloc (.cells #[.int .i64 0, .int .i64 0, .int .i64 0, .int .i64 0, .bool false, .int .i64 0] 33) = w1 := ⟨_, rfl⟩
  rw [hw1] at B1 L1 X1 HS
  have k1 := K w1 B1.out
  have l0 : w1.cell? ⟨h, 0, none⟩ = some (.map mz) := L1.out.cell 0
  have FC : ∀ ob i, (w1.alloc ob).cell? ⟨w.heap.size, i, none⟩ = w1.cell? ⟨w.heap.size, i, none⟩ := fun ob i => (alloc_below w1 ob).cell (p := ⟨w.heap.size, i, none⟩) HS.out
  have FG : ∀ ob i, (w1.alloc ob).frozen? ⟨w.heap.size, i, none⟩ = w1.frozen? ⟨w.heap.size, i, none⟩ := fun ob i => (alloc_below w1 ob).frozen (p := ⟨w.heap.size, i, none⟩) HS.out
  clear K ht hm hl
  have r0 : w1.cell? ⟨w.heap.size, 0, none⟩ = some (.int .i64 0) := X1.out.cell 0
  have g0 := X1.out.frozen 0
  have r1 : w1.cell? ⟨w.heap.size, 1, none⟩ = some (.int .i64 0) := X1.out.cell 1
  have g1 := X1.out.frozen 1
  have r2 : w1.cell? ⟨w.heap.size, 2, none⟩ = some (.int .i64 0) := X1.out.cell 2
  have g2 := X1.out.frozen 2
  have r3 : w1.cell? ⟨w.heap.size, 3, none⟩ = some (.int .i64 0) := X1.out.cell 3
  have g3 := X1.out.frozen 3
  have r4 : w1.cell? ⟨w.heap.size, 4, none⟩ = some (.bool false) := X1.out.cell 4
  have g4 := X1.out.frozen 4
  have r5 : w1.cell? ⟨w.heap.size, 5, none⟩ = some (.int .i64 0) := X1.out.cell 5
  have g5 := X1.out.frozen 5
  cases o with
  | none =>
    simp only [Option.getD_none, Option.isSome_none, zn0, zval] at k1
    go_enter Try.func25, Try.ntmps25
    go_wp2
    refine bodyPost_ret (v := .tuple #[zval zn0, .int .i64 5]) (by simp [results, Try.results25, go_sem, zval, zn0, r0, r1, r2, r3, r4, r5, FC]) rfl ⟨rfl, ?_⟩
    iterate 6 refine Below.setCell ?_ (show w.heap.size ≤ _ from Nat.le_refl _) _
    exact B1.out.alloc B1.out.size _
  | some y =>
    obtain ⟨a, b, c, d, e, f⟩ := y
    simp only [Option.getD_some, Option.isSome_some, zval] at k1
    go_enter Try.func25, Try.ntmps25
    go_wp2
    refine bodyPost_ret (v := .tuple #[zval ⟨a, b, c, d, e, f⟩, .int .i64 0]) (by simp [results, Try.results25, go_sem, zval, r0, r1, r2, r3, r4, r5, FC]) rfl ⟨rfl, ?_⟩
    iterate 6 refine Below.setCell ?_ (show w.heap.size ≤ _ from Nat.le_refl _) _
    exact B1.out.alloc B1.out.size _
end Ms
end Go.Proofs.Ytpceoklacpcfkaa
