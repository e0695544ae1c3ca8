/- Walks over package master's table of Zones: one more. No condition but those written. -/
import Derived.Test.YtpceoklacpcfkaaMsRZ
import Derived.WalkSpells
import Derived.StillTailTactics
namespace Go.Proofs.Ytpceoklacpcfkaa
open Go.RowKit Go.Maps

namespace Ms
set_option maxRecDepth 100000 in
set_option maxHeartbeats 4000000 in
/-- One of its number is there. -/
theorem taddZ_twice (B h : Nat) (mz mp : Option Nat) (S : List Zn) (x : Zn) (w : World) (hl : Lies w h 54 #[.map mz, .map mp]) (ht : Tab Zf Zn.id w B mz S) (hm : In64 x.id) (hf : findK Zn.id x.id S ≠ none) :
    Calls Try.prog 20 #[.pointer (some ⟨h, 0, none⟩), .int .i64 x.id, zval x] w fun e w' => e = .returned (.int .i64 6) ∧ Below w.heap.size w w' := by
  have K := fun W hW => tlookZ ht hm W hW
  generalize findK Zn.id x.id S = o at *
  obtain ⟨a, b, c, d, e, f⟩ := x
  unfold zval at *
  simp only at K ⊢
  have B1 := Lib.hid (alloc_below w (.cells #[.int .i64 a, .int .i64 b, .int .i64 c, .int .i64 d, .bool e, .int .i64 f] 33))
  have L1 := Lib.hid (hl.alloc (.cells #[.int .i64 a, .int .i64 b, .int .i64 c, .int .i64 d, .bool e, .int .i64 f] 33))
  obtain ⟨w1, hw1⟩ : ∃ w1, w.alloc (.cells #[.int .i64 a, .int .i64 b, .int .i64 c, .int .i64 d, .bool e, .int .i64 f] 33) = w1 := ⟨_, rfl⟩
  rw [hw1] at B1 L1
  have k1 := K w1 B1.out
  have l0 : w1.cell? ⟨h, 0, none⟩ = some (.map mz) := L1.out.cell 0
  clear K ht hm hl
  cases o with
  | none => exact absurd rfl hf
  | some y =>
    obtain ⟨a2, b2, c2, d2, e2, f2⟩ := y
    simp only [Option.getD_some, Option.isSome_some] at k1
    clear hf
    go_enter Try.func20, Try.ntmps20
    go_wp2
    go_ret
    exact ⟨rfl, B1.out.alloc B1.out.size _⟩
set_option maxRecDepth 100000 in
set_option maxHeartbeats 4000000 in
/-- The first one of all. -/
theorem taddZ_first (h : Nat) (mz mp : Option Nat) (x : Zn) (w : World) (hl : Lies w h 54 #[.map mz, .map mp]) (hmo : mz = none) (hm : In64 x.id) :
    Calls Try.prog 20 #[.pointer (some ⟨h, 0, none⟩), .int .i64 x.id, zval x] w fun e w' => e = .returned (.int .i64 0) ∧
      ∃ q, w.heap.size ≤ q ∧ Lies w' h 54 #[.map (some q), .map mp] ∧ w'.ownsMap Try.prog 3 (rdF Zf) q 1 (DataW.put (.map []) (.int .i64 x.id) (zdat x)) ∧ Turn (fun k => k = h) w w' := by
  subst hmo
  have K := fun (W : World) hW => tlookZ (S := []) (B := 0) (w := w) (.inl ⟨rfl, rfl⟩) hm W hW
  simp only [findK, Option.getD_none, Option.isSome_none, zn0] at K
  have HKEY := Lib.hid (key_of hm)
  have HD := Lib.hid (rd_mk (Fm := Zf) x)
  obtain ⟨a, b, c, d, e, f⟩ := x
  simp only [Zf, zval, zdat] at K HKEY HD ⊢
  have B1 := Lib.hid (alloc_below w (.cells #[.int .i64 a, .int .i64 b, .int .i64 c, .int .i64 d, .bool e, .int .i64 f] 33))
  have L1 := Lib.hid (hl.alloc (.cells #[.int .i64 a, .int .i64 b, .int .i64 c, .int .i64 d, .bool e, .int .i64 f] 33))
  have X1 := Lib.hid (Lies.new w 33 #[.int .i64 a, .int .i64 b, .int .i64 c, .int .i64 d, .bool e, .int .i64 f])
  have HL := Lib.hid hl.lt
  obtain ⟨w1, hw1⟩ : ∃ w1, w.alloc (.cells #[.int .i64 a, .int .i64 b, .int .i64 c, .int .i64 d, .bool e, .int .i64 f] 33) = w1 := ⟨_, rfl⟩
  rw [hw1] at B1 L1 X1
  have B2 := Lib.hid (B1.out.alloc B1.out.size (.cells #[.int .i64 0, .int .i64 0, .int .i64 0, .int .i64 0, .bool false, .int .i64 0] 33))
  have L2 := Lib.hid (L1.out.alloc (.cells #[.int .i64 0, .int .i64 0, .int .i64 0, .int .i64 0, .bool false, .int .i64 0] 33))
  have X2 := Lib.hid (X1.out.alloc (.cells #[.int .i64 0, .int .i64 0, .int .i64 0, .int .i64 0, .bool false, .int .i64 0] 33))
  have k1 := K w1 B1.out
  have l1 : w1.cell? ⟨h, 0, none⟩ = some (.map none) := L1.out.cell 0
  have f1 : w1.frozen? ⟨h, 0, none⟩ = false := L1.out.frozen 0
  have FC : ∀ ob i, (w1.alloc ob).cell? ⟨h, i, none⟩ = w1.cell? ⟨h, i, none⟩ := fun ob i => (alloc_below w1 ob).cell (p := ⟨h, i, none⟩) L1.out.lt
  have FD : ∀ ob ob2 i, ((w1.alloc ob).alloc ob2).cell? ⟨h, i, none⟩ = w1.cell? ⟨h, i, none⟩ := fun ob ob2 i => ((alloc_below w1 ob).alloc (by simp) ob2).cell (p := ⟨h, i, none⟩) L1.out.lt
  have FG : ∀ ob ob2 i, ((w1.alloc ob).alloc ob2).frozen? ⟨h, i, none⟩ = w1.frozen? ⟨h, i, none⟩ := fun ob ob2 i => ((alloc_below w1 ob).alloc (by simp) ob2).frozen (p := ⟨h, i, none⟩) L1.out.lt
  have EN := fun W => run_eql_map_nil (P := Try.prog) W 47 3 33 none Try.underlying47
  have hmm := @run_makeMap Try.prog
  clear K hl hm
  go_enter Try.func20, Try.ntmps20
  go_wp2_with fail
  clear hw1 k1 l1 f1 FC FD FG EN hmm
  obtain ⟨w2, hw2⟩ : ∃ w2, w1.alloc (.cells #[.int .i64 0, .int .i64 0, .int .i64 0, .int .i64 0, .bool false, .int .i64 0] 33) = w2 := ⟨_, rfl⟩
  rw [hw2] at B2 L2 X2 ⊢
  have B3 := Lib.hid (B2.out.alloc B2.out.size (.map #[] 0))
  have L3 := Lib.hid (L2.out.alloc (.map #[] 0))
  have X3 := Lib.hid (X2.out.alloc (.map #[] 0))
  have O3 := Lib.hid (World.ownsMap_made (H := Unit) w2 Try.prog 3 (rdF Zf))
  have hh2 : Hid (h < w2.heap.size) := Lib.hid L2.out.lt
  have hx2 : Hid (w.heap.size < w2.heap.size) := Lib.hid X2.out.lt
  obtain ⟨w3, hw3⟩ : ∃ w3, w2.alloc (.map #[] 0) = w3 := ⟨_, rfl⟩
  rw [hw3] at B3 L3 X3 O3 ⊢
  have hs2 : w2.heap.size = w1.heap.size + 1 := by rw [← hw2]; simp
  rw [← hs2]
  clear hw2 hw3 hs2
  have hne : w2.heap.size ≠ h := by have := hh2.out; omega
  have L4 : Hid (Lies (w3.setCell ⟨h, 0, none⟩ (.map (some w2.heap.size))) h 54 #[.map (some w2.heap.size), .map mp]) := Lib.hid (by simpa using L3.out.set_ 0 (.map (some w2.heap.size)))
  have X4 : Hid (Lies (w3.setCell ⟨h, 0, none⟩ (.map (some w2.heap.size))) w.heap.size 33 #[.int .i64 a, .int .i64 b, .int .i64 c, .int .i64 d, .bool e, .int .i64 f]) :=
    Lib.hid (X3.out.like (Below.heap_setCell w3 ⟨h, 0, none⟩ _ _ (by have := HL.out; simp only; omega)))
  have O4 := Lib.hid (own_like O3.out (Below.heap_setCell w3 ⟨h, 0, none⟩ (.map (some w2.heap.size)) w2.heap.size hne))
  have T4 := Lib.hid ((Turn.of_below (S := fun k => k = h) B3.out).setCell (p := ⟨h, 0, none⟩) (.inl rfl) (.map (some w2.heap.size)))
  generalize w3.setCell ⟨h, 0, none⟩ (.map (some w2.heap.size)) = w4 at *
  have l0 : w4.cell? ⟨h, 0, none⟩ = some (.map (some w2.heap.size)) := L4.out.cell 0
  have x0 : w4.cell? ⟨w.heap.size, 0, none⟩ = some (.int .i64 a) := X4.out.cell 0
  have x1 : w4.cell? ⟨w.heap.size, 1, none⟩ = some (.int .i64 b) := X4.out.cell 1
  have x2 : w4.cell? ⟨w.heap.size, 2, none⟩ = some (.int .i64 c) := X4.out.cell 2
  have x3 : w4.cell? ⟨w.heap.size, 3, none⟩ = some (.int .i64 d) := X4.out.cell 3
  have x4 : w4.cell? ⟨w.heap.size, 4, none⟩ = some (.bool e) := X4.out.cell 4
  have x5 : w4.cell? ⟨w.heap.size, 5, none⟩ = some (.int .i64 f) := X4.out.cell 5
  generalize w2.heap.size = q at *
  have HN := Lib.hid hne
  clear hne
  go_still_tail 6, (by kernel_rfl)
  repeat still_step
  refine wpList_mapUpdate_own w4.drew rfl _ _ _ 47 rfl 3 33 lawI Try.underlying47 (rdF Zf) q 0 (.map []) rfl O4.out.drew (by decide) _ _ (.int .i64 a) rfl rfl HKEY.out _ [] HD.out ?_
  intro w5 hown5 hg5
  have T5 := Lib.hid (T4.out.drew.grown hg5 (fun k hk => .inr (by have := Option.some.inj hk; have := hx2.out; omega)))
  have L5 : Hid (Lies w5 h 54 #[.map (some q), .map mp]) := Lib.hid (L4.out.like (hg5.block h L4.out.lt (fun e => HN.out (Option.some.inj e).symm)))
  have O5 := Lib.hid hown5
  clear hown5 hg5 l0 x0 x1 x2 x3 x4 x5
  go_wp2
  go_ret
  exact ⟨rfl, q, by have := hx2.out; omega, L5.out, O5.out, T5.out⟩
set_option maxRecDepth 100000 in
set_option maxHeartbeats 4000000 in
/-- One more of them. -/
theorem taddZ_more (B h q n : Nat) (D : DataW Unit) (mz mp : Option Nat) (S : List Zn) (x : Zn) (w : World) (hl : Lies w h 54 #[.map mz, .map mp]) (hmo : mz = some q) (hown : w.ownsMap Try.prog 3 (rdF Zf) q n D) (hn : n < maxLen)
    (ht : Tab Zf Zn.id w B mz S) (hm : In64 x.id) (hf : findK Zn.id x.id S = none) :
    Calls Try.prog 20 #[.pointer (some ⟨h, 0, none⟩), .int .i64 x.id, zval x] w fun e w' => e = .returned (.int .i64 0) ∧
      w'.ownsMap Try.prog 3 (rdF Zf) q (n + 1) (D.put (.int .i64 x.id) (zdat x)) ∧ Turn (fun k => k = q) w w' := by
  have K := fun (W : World) hW => tlookZ ht hm W hW
  rw [hf] at K
  simp only [Option.getD_none, Option.isSome_none, zn0] at K
  subst hmo
  have HKEY := Lib.hid (key_of hm)
  have HD := Lib.hid (rd_mk (Fm := Zf) x)
  have HO := Lib.hid hown
  have HQ := Lib.hid hown.lt
  clear hown
  obtain ⟨a, b, c, d, e, f⟩ := x
  simp only [Zf, zval, zdat] at K HKEY HD HO ⊢
  have B1 := Lib.hid (alloc_below w (.cells #[.int .i64 a, .int .i64 b, .int .i64 c, .int .i64 d, .bool e, .int .i64 f] 33))
  have L1 := Lib.hid (hl.alloc (.cells #[.int .i64 a, .int .i64 b, .int .i64 c, .int .i64 d, .bool e, .int .i64 f] 33))
  have X1 := Lib.hid (Lies.new w 33 #[.int .i64 a, .int .i64 b, .int .i64 c, .int .i64 d, .bool e, .int .i64 f])
  obtain ⟨w1, hw1⟩ : ∃ w1, w.alloc (.cells #[.int .i64 a, .int .i64 b, .int .i64 c, .int .i64 d, .bool e, .int .i64 f] 33) = w1 := ⟨_, rfl⟩
  rw [hw1] at B1 L1 X1
  have B2 := Lib.hid (B1.out.alloc B1.out.size (.cells #[.int .i64 0, .int .i64 0, .int .i64 0, .int .i64 0, .bool false, .int .i64 0] 33))
  have L2 := Lib.hid (L1.out.alloc (.cells #[.int .i64 0, .int .i64 0, .int .i64 0, .int .i64 0, .bool false, .int .i64 0] 33))
  have X2 := Lib.hid (X1.out.alloc (.cells #[.int .i64 0, .int .i64 0, .int .i64 0, .int .i64 0, .bool false, .int .i64 0] 33))
  have FC : ∀ ob i, (w1.alloc ob).cell? ⟨h, i, none⟩ = w1.cell? ⟨h, i, none⟩ := fun ob i => (alloc_below w1 ob).cell (p := ⟨h, i, none⟩) L1.out.lt
  have k1 := K w1 B1.out
  have l1 : w1.cell? ⟨h, 0, none⟩ = some (.map (some q)) := L1.out.cell 0
  have EN := fun W => run_eql_map_nil (P := Try.prog) W 47 3 33 (some q) Try.underlying47
  clear K hl hm hf ht
  go_enter Try.func20, Try.ntmps20
  go_wp2_with fail
  clear hw1 k1 l1 EN FC
  obtain ⟨w2, hw2⟩ : ∃ w2, w1.alloc (.cells #[.int .i64 0, .int .i64 0, .int .i64 0, .int .i64 0, .bool false, .int .i64 0] 33) = w2 := ⟨_, rfl⟩
  rw [hw2] at B2 L2 X2 ⊢
  clear hw2
  have O2 := Lib.hid (own_like HO.out (show w2.drew.heap[q]? = w.heap[q]? from B2.out.block q HQ.out))
  have l2 : w2.cell? ⟨h, 0, none⟩ = some (.map (some q)) := L2.out.cell 0
  have x0 : w2.cell? ⟨w.heap.size, 0, none⟩ = some (.int .i64 a) := X2.out.cell 0
  have x1 : w2.cell? ⟨w.heap.size, 1, none⟩ = some (.int .i64 b) := X2.out.cell 1
  have x2 : w2.cell? ⟨w.heap.size, 2, none⟩ = some (.int .i64 c) := X2.out.cell 2
  have x3 : w2.cell? ⟨w.heap.size, 3, none⟩ = some (.int .i64 d) := X2.out.cell 3
  have x4 : w2.cell? ⟨w.heap.size, 4, none⟩ = some (.bool e) := X2.out.cell 4
  have x5 : w2.cell? ⟨w.heap.size, 5, none⟩ = some (.int .i64 f) := X2.out.cell 5
  go_still_tail 6, (by kernel_rfl)
  repeat still_step
  refine wpList_mapUpdate_own w2.drew rfl _ _ _ 47 rfl 3 33 lawI Try.underlying47 (rdF Zf) q n D rfl O2.out hn _ _ (.int .i64 a) rfl rfl HKEY.out _ [] HD.out ?_
  intro w5 hown5 hg5
  have T5 := Lib.hid (((Turn.of_below (S := fun k => k = q) B2.out).drew).grown hg5 (fun k hk => .inl (Option.some.inj hk).symm))
  have O5 := Lib.hid hown5
  clear hown5 hg5 l2 x0 x1 x2 x3 x4 x5
  go_wp2
  go_ret
  exact ⟨rfl, O5.out, T5.out⟩
end Ms
end Go.Proofs.Ytpceoklacpcfkaa
