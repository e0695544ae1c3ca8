/- Walks over package stock: the lot of a number, as it is kept; whether no number is left; lots kept in memory. No condition but those written. Walks over package stock: a lot is kept in the place of the one of its number. No condition but those written. Walks over package stock: a zone's load (a range over a map). No condition but those written. Walks over package stock: a master's zone, whether there is room, one lot more. No condition but those written. Walks over package stock: one lot more, of the next number. No condition but those written. Walks over package stock: Mark, Leave. No condition but those written. -/
import Derived.Test.YtkfmkchonlajpaaQ08
import Derived.Test.YtkfmkchonlajpaaQ03
import Derived.WalkSpells
import Derived.StillTailTactics
import Derived.WalkMore
import Derived.Laws.IdiomRangeMap
import Derived.Lib.QuietBelow
import Derived.BigQuiet
import Derived.Test.YtkfmkchonlajpaaQ05
import Derived.Test.YtkfmkchonlajpaaQ04
namespace Go.Proofs.Ytkfmkchonlajpaa
open Go.RowKit Go.Maps

namespace Lo
set_option maxRecDepth 100000 in
set_option maxHeartbeats 4000000 in
/-- No stock. -/
theorem plot_nil (id : Int) (w : World) : Calls Try.prog 44 #[.pointer none, .int .i64 id] w fun e w' => e = .returned (.tuple #[rval lr0, .int .i64 1]) ∧ Below w.heap.size w w' := by
  have B1 := Lib.hid (alloc_below w (.cells #[.int .i64 0, .int .i64 0, .int .i64 0, .int .i64 0, .int .i64 0, .int .i64 0, .int .i64 0, .slice none 0 0] 32))
  have X1 := Lib.hid (Lies.new w 32 #[.int .i64 0, .int .i64 0, .int .i64 0, .int .i64 0, .int .i64 0, .int .i64 0, .int .i64 0, .slice none 0 0])
  obtain ⟨w1, hw1⟩ : ∃ w1, w.alloc (.cells #[.int .i64 0, .int .i64 0, .int .i64 0, .int .i64 0, .int .i64 0, .int .i64 0, .int .i64 0, .slice none 0 0] 32) = w1 := ⟨_, rfl⟩
  rw [hw1] at B1 X1
  have r0 : w1.cell? ⟨w.heap.size, 0, none⟩ = some (.int .i64 0) := X1.out.cell 0
  have r1 : w1.cell? ⟨w.heap.size, 1, none⟩ = some (.int .i64 0) := X1.out.cell 1
  have r2 : w1.cell? ⟨w.heap.size, 2, none⟩ = some (.int .i64 0) := X1.out.cell 2
  have r3 : w1.cell? ⟨w.heap.size, 3, none⟩ = some (.int .i64 0) := X1.out.cell 3
  have r4 : w1.cell? ⟨w.heap.size, 4, none⟩ = some (.int .i64 0) := X1.out.cell 4
  have r5 : w1.cell? ⟨w.heap.size, 5, none⟩ = some (.int .i64 0) := X1.out.cell 5
  have r6 : w1.cell? ⟨w.heap.size, 6, none⟩ = some (.int .i64 0) := X1.out.cell 6
  have r7 : w1.cell? ⟨w.heap.size, 7, none⟩ = some (.slice none 0 0) := X1.out.cell 7
  have g0 := X1.out.frozen 0
  have g1 := X1.out.frozen 1
  have g2 := X1.out.frozen 2
  have g3 := X1.out.frozen 3
  have g4 := X1.out.frozen 4
  have g5 := X1.out.frozen 5
  have g6 := X1.out.frozen 6
  have g7 := X1.out.frozen 7
  go_enter Try.func44, Try.ntmps44
  go_wp2
  refine bodyPost_ret (v := .tuple #[rval lr0, .int .i64 1]) (by simp [results, Try.results44, go_sem, rval, lr0, r0, r1, r2, r3, r4, r5, r6, r7]) rfl ⟨rfl, ?_⟩
  iterate 8 refine Below.setCell ?_ (show w.heap.size ≤ _ from Nat.le_refl _) _
  exact B1.out
set_option maxRecDepth 100000 in
set_option maxHeartbeats 4000000 in
/-- The one of a number. -/
theorem plot_any (B h : Nat) (mo : Option Nat) (given : Int) (S : List Lr) (id : Int) (w : World) (hl : Lies w h 60 #[.map mo, .int .i64 given]) (ht : Ms.Tab Lf Lr.id w B mo S) (hm : Ms.In64 id) :
    Calls Try.prog 44 #[.pointer (some ⟨h, 0, none⟩), .int .i64 id] w fun e w' =>
      e = .returned (.tuple #[rval (Ms.getK (Ms.findK Lr.id id S) lr0).1, .int .i64 ((Ms.getK (Ms.findK Lr.id id S) lr0).2 : Nat)]) ∧ Below w.heap.size w w' := by
  have K := fun W hW => tlookL ht hm W hW
  generalize Ms.findK Lr.id id S = o at *
  have B1 := Lib.hid (alloc_below w (.cells #[.int .i64 0, .int .i64 0, .int .i64 0, .int .i64 0, .int .i64 0, .int .i64 0, .int .i64 0, .slice none 0 0] 32))
  have L1 := Lib.hid (hl.alloc (.cells #[.int .i64 0, .int .i64 0, .int .i64 0, .int .i64 0, .int .i64 0, .int .i64 0, .int .i64 0, .slice none 0 0] 32))
  have X1 := Lib.hid (Lies.new w 32 #[.int .i64 0, .int .i64 0, .int .i64 0, .int .i64 0, .int .i64 0, .int .i64 0, .int .i64 0, .slice none 0 0])
  have HS : Hid (w.heap.size < (w.alloc (.cells #[.int .i64 0, .int .i64 0, .int .i64 0, .int .i64 0, .int .i64 0, .int .i64 0, .int .i64 0, .slice none 0 0] 32)).heap.size) := Lib.hid (by simp)
  obtain ⟨w1, hw1⟩ : ∃ w1, w.alloc (.cells #[.int .i64 0, .int .i64 0, .int .i64 0, .int .i64 0, .int .i64 0, .int .i64 0, .int .i64 0, .slice none 0 0] 32) = w1 := ⟨_, rfl⟩
  rw [hw1] at B1 L1 X1 HS
  have k1 := K w1 B1.out
  have l0 : w1.cell? ⟨h, 0, none⟩ = some (.map mo) := L1.out.cell 0
  have FC : ∀ ob i, (w1.alloc ob).cell? ⟨w.heap.size, i, none⟩ = w1.cell? ⟨w.heap.size, i, none⟩ := fun ob i => (alloc_below w1 ob).cell (p := ⟨w.heap.size, i, none⟩) HS.out
  have FG : ∀ ob i, (w1.alloc ob).frozen? ⟨w.heap.size, i, none⟩ = w1.frozen? ⟨w.heap.size, i, none⟩ := fun ob i => (alloc_below w1 ob).frozen (p := ⟨w.heap.size, i, none⟩) HS.out
  clear K ht hm hl
  have r0 : w1.cell? ⟨w.heap.size, 0, none⟩ = some (.int .i64 0) := X1.out.cell 0
  have r1 : w1.cell? ⟨w.heap.size, 1, none⟩ = some (.int .i64 0) := X1.out.cell 1
  have r2 : w1.cell? ⟨w.heap.size, 2, none⟩ = some (.int .i64 0) := X1.out.cell 2
  have r3 : w1.cell? ⟨w.heap.size, 3, none⟩ = some (.int .i64 0) := X1.out.cell 3
  have r4 : w1.cell? ⟨w.heap.size, 4, none⟩ = some (.int .i64 0) := X1.out.cell 4
  have r5 : w1.cell? ⟨w.heap.size, 5, none⟩ = some (.int .i64 0) := X1.out.cell 5
  have r6 : w1.cell? ⟨w.heap.size, 6, none⟩ = some (.int .i64 0) := X1.out.cell 6
  have r7 : w1.cell? ⟨w.heap.size, 7, none⟩ = some (.slice none 0 0) := X1.out.cell 7
  have g0 := X1.out.frozen 0
  have g1 := X1.out.frozen 1
  have g2 := X1.out.frozen 2
  have g3 := X1.out.frozen 3
  have g4 := X1.out.frozen 4
  have g5 := X1.out.frozen 5
  have g6 := X1.out.frozen 6
  have g7 := X1.out.frozen 7
  cases o with
  | none =>
    simp only [Option.getD_none, Option.isSome_none, lr0, rval] at k1
    go_enter Try.func44, Try.ntmps44
    go_wp2
    refine bodyPost_ret (v := .tuple #[rval lr0, .int .i64 5]) (by simp [results, Try.results44, go_sem, rval, lr0, r0, r1, r2, r3, r4, r5, r6, r7, FC]) rfl ⟨rfl, ?_⟩
    iterate 8 refine Below.setCell ?_ (show w.heap.size ≤ _ from Nat.le_refl _) _
    exact B1.out.alloc B1.out.size _
  | some y =>
    obtain ⟨a1, a2, a3, a4, a5, a6, a7, p, n, c⟩ := y
    simp only [Option.getD_some, Option.isSome_some, rval] at k1
    go_enter Try.func44, Try.ntmps44
    go_wp2
    refine bodyPost_ret (v := .tuple #[rval ⟨a1, a2, a3, a4, a5, a6, a7, p, n, c⟩, .int .i64 0]) (by simp [results, Try.results44, go_sem, rval, r0, r1, r2, r3, r4, r5, r6, r7, FC]) rfl ⟨rfl, ?_⟩
    iterate 8 refine Below.setCell ?_ (show w.heap.size ≤ _ from Nat.le_refl _) _
    exact B1.out.alloc B1.out.size _
theorem pfull_any (h : Nat) (mo : Option Nat) (given : Int) (w : World) (hl : Lies w h 60 #[.map mo, .int .i64 given]) :
    Calls Try.prog 40 #[.pointer (some ⟨h, 0, none⟩)] w fun e w' => e = .returned (.bool (decide (256 ≤ given))) ∧ w' = w := by
  have l1 : w.cell? ⟨h, 1, none⟩ = some (.int .i64 given) := hl.cell 1
  go_enter Try.func40, Try.ntmps40
  go_wp2
  go_ret
  exact ⟨rfl, rfl⟩
/-- Lots, kept: the stock's block, a map or none, where the stays lie. -/
structure PL (W : World) (B h : Nat) (mo : Option Nat) (given : Int) (L : List Lv) : Prop where
  base : B ≤ h
  blk : Lies W h 60 #[.map mo, .int .i64 given]
  tab : Ms.Tab Lf Lr.id W B mo (L.map raw)
  stays : ∀ y ∈ L, St W y
  apart : ∀ k, Bks L k → B ≤ k ∧ k ≠ h ∧ mo ≠ some k
/-- Its memory. -/
def PF (h : Nat) (mo : Option Nat) (L : List Lv) (k : Nat) : Prop := k = h ∨ mo = some k ∨ Bks L k
theorem bks_lt {W : World} {L : List Lv} (h : ∀ y ∈ L, St W y) {k : Nat} (hk : Bks L k) : k < W.heap.size := by
  obtain ⟨y, hy, hk⟩ := hk
  exact (h y hy).lt hk
theorem PL.foot {W : World} {B h : Nat} {mo : Option Nat} {given : Int} {L : List Lv} (hp : PL W B h mo given L) {k : Nat} (hk : PF h mo L k) : B ≤ k ∧ k < W.heap.size := by
  rcases hk with rfl | hk | hk
  · exact ⟨hp.base, hp.blk.lt⟩
  · exact Ms.tab_lt hp.tab hk
  · exact ⟨(hp.apart k hk).1, bks_lt hp.stays hk⟩
theorem PL.turn {w w' : World} {B h : Nat} {mo : Option Nat} {given : Int} {L : List Lv} {T : Nat → Prop} (hp : PL w B h mo given L) (ht : Turn T w w') (hs : ∀ k, PF h mo L k → ¬ T k) : PL w' B h mo given L :=
  ⟨hp.base, hp.blk.turn ht (hs h (.inl rfl)), Ms.tab_turn hp.tab ht (fun k hk => hs k (.inr (.inl hk))), fun y hy => (hp.stays y hy).turn ht (fun k hk => hs k (.inr (.inr ⟨y, hy, hk⟩))), hp.apart⟩
theorem PL.keep {w w' : World} {B h : Nat} {mo : Option Nat} {given : Int} {L : List Lv} (hp : PL w B h mo given L) (hb : Below w.heap.size w w') : PL w' B h mo given L :=
  hp.turn (T := fun _ => False) (Turn.of_below hb) (fun _ _ hf => hf)
/-- A stock in memory. -/
def PS (w : World) (B h : Nat) (F : Nat → Prop) (s : Stk) : Prop := ∃ mo L, lts L = s.1 ∧ PL w B h mo s.2 L ∧ ∀ k, F k ↔ PF h mo L k
theorem ps_foot {w : World} {B h : Nat} {F : Nat → Prop} {s : Stk} {k : Nat} (hp : PS w B h F s) (hk : F k) : B ≤ k ∧ k < w.heap.size := by
  obtain ⟨mo, L, _, hP, hF⟩ := hp
  exact hP.foot ((hF k).1 hk)
theorem ps_turn {w w' : World} {B h : Nat} {F T : Nat → Prop} {s : Stk} (hp : PS w B h F s) (ht : Turn T w w') (hs : ∀ k, F k → ¬ T k) : PS w' B h F s := by
  obtain ⟨mo, L, e, hP, hF⟩ := hp
  exact ⟨mo, L, e, hP.turn ht (fun k hk => hs k ((hF k).2 hk)), hF⟩
/-- What an act leaves that changes nothing. -/
theorem left_same {w w' : World} {B h : Nat} {F : Nat → Prop} {s : Stk} (hp : PS w B h F s) (hb : Below w.heap.size w w') : Left PS w B h F s w' :=
  ⟨F, ps_turn hp (T := fun _ => False) (Turn.of_below hb) (fun _ _ hf => hf), Turn.of_below hb, fun _ hk => .inl hk⟩
/-- What an act leaves. -/
theorem left_of {w w' : World} {B h : Nat} {F : Nat → Prop} {mo mo' : Option Nat} {L L' : List Lv} {s' : Stk} (hF : ∀ k, F k ↔ PF h mo L k) (e : lts L' = s'.1) (hp : PL w' B h mo' s'.2 L')
    (ht : Turn (fun k => k = h ∨ mo = some k) w w') (hm : ∀ k, mo' = some k → mo = some k ∨ w.heap.size ≤ k) (hk : ∀ k, Bks L' k → Bks L k ∨ w.heap.size ≤ k) : Left PS w B h F s' w' := by
  refine ⟨PF h mo' L', ⟨mo', L', e, hp, fun k => Iff.rfl⟩, ht.mono (fun i _ hi => (hF i).2 (hi.elim .inl (fun h => .inr (.inl h)))), fun k hk' => ?_⟩
  rcases hk' with rfl | hk' | hk'
  · exact .inl ((hF _).2 (.inl rfl))
  · exact (hm k hk').imp (fun h => (hF k).2 (.inr (.inl h))) id
  · exact (hk k hk').imp (fun h => (hF k).2 (.inr (.inr h))) id
theorem pnewS_any (w : World) : Calls Try.prog 5 #[] w fun e w' => ∃ h F, e = .returned (.pointer (some ⟨h, 0, none⟩)) ∧ PS w' w.heap.size h F ([], 0) ∧ Below w.heap.size w w' := by
  have X := Lib.hid (Lies.new w 60 #[.map none, .int .i64 0])
  go_enter Try.func5, Try.ntmps5
  go_wp2
  go_ret
  exact ⟨w.heap.size, PF w.heap.size none [], rfl, ⟨none, [], rfl, ⟨Nat.le_refl _, X.out, .inl ⟨rfl, rfl⟩, fun y hy => by simp at hy, fun k hk => by obtain ⟨y, hy, _⟩ := hk; simp at hy⟩, fun k => Iff.rfl⟩, alloc_below w _⟩
end Lo
end Go.Proofs.Ytkfmkchonlajpaa

namespace Go.Proofs.Ytkfmkchonlajpaa
open Go.RowKit Go.Maps

namespace Lo
set_option maxRecDepth 100000 in
set_option maxHeartbeats 4000000 in
/-- The first one of all. -/
theorem pkeep_first (h : Nat) (given : Int) (r : Lr) (w : World) (hl : Lies w h 60 #[.map none, .int .i64 given]) (hm : Ms.In64 r.id) :
    Calls Try.prog 24 #[.pointer (some ⟨h, 0, none⟩), rval r] w fun e w' => e = .returned (.tuple #[]) ∧
      ∃ q, w.heap.size ≤ q ∧ Lies w' h 60 #[.map (some q), .int .i64 given] ∧ w'.ownsMap Try.prog 3 (Ms.rdF Lf) q 1 (DataW.put (.map []) (.int .i64 r.id) (rdat r)) ∧ Turn (fun k => k = h) w w' := by
  have HKEY := Lib.hid (Ms.key_of hm)
  have HD := Lib.hid (Ms.rd_mk (Fm := Lf) r)
  obtain ⟨a1, a2, a3, a4, a5, a6, a7, p, n, c⟩ := r
  simp only [Lf, rval] at HKEY HD ⊢
  have B1 := Lib.hid (alloc_below w (.cells #[.int .i64 a1, .int .i64 a2, .int .i64 a3, .int .i64 a4, .int .i64 a5, .int .i64 a6, .int .i64 a7, .slice p n c] 32))
  have L1 := Lib.hid (hl.alloc (.cells #[.int .i64 a1, .int .i64 a2, .int .i64 a3, .int .i64 a4, .int .i64 a5, .int .i64 a6, .int .i64 a7, .slice p n c] 32))
  have X1 := Lib.hid (Lies.new w 32 #[.int .i64 a1, .int .i64 a2, .int .i64 a3, .int .i64 a4, .int .i64 a5, .int .i64 a6, .int .i64 a7, .slice p n c])
  have HL := Lib.hid hl.lt
  obtain ⟨w1, hw1⟩ : ∃ w1, w.alloc (.cells #[.int .i64 a1, .int .i64 a2, .int .i64 a3, .int .i64 a4, .int .i64 a5, .int .i64 a6, .int .i64 a7, .slice p n c] 32) = w1 := ⟨_, rfl⟩
  rw [hw1] at B1 L1 X1
  have l1 : w1.cell? ⟨h, 0, none⟩ = some (.map none) := L1.out.cell 0
  have f1 : w1.frozen? ⟨h, 0, none⟩ = false := L1.out.frozen 0
  have FC : ∀ ob i, (w1.alloc ob).cell? ⟨h, i, none⟩ = w1.cell? ⟨h, i, none⟩ := fun ob i => (alloc_below w1 ob).cell (p := ⟨h, i, none⟩) L1.out.lt
  have FG : ∀ ob i, (w1.alloc ob).frozen? ⟨h, i, none⟩ = w1.frozen? ⟨h, i, none⟩ := fun ob i => (alloc_below w1 ob).frozen (p := ⟨h, i, none⟩) L1.out.lt
  have EN := fun W => run_eql_map_nil (P := Try.prog) W 58 3 32 none Try.underlying58
  have hmm := @run_makeMap Try.prog
  clear hl hm
  go_enter Try.func24, Try.ntmps24
  go_wp2_with fail
  clear hw1 l1 f1 FC FG EN hmm
  have B3 := Lib.hid (B1.out.alloc B1.out.size (.map #[] 0))
  have L3 := Lib.hid (L1.out.alloc (.map #[] 0))
  have X3 := Lib.hid (X1.out.alloc (.map #[] 0))
  have O3 := Lib.hid (World.ownsMap_made (H := Unit) w1 Try.prog 3 (Ms.rdF Lf))
  have hh2 : Hid (h < w1.heap.size) := Lib.hid L1.out.lt
  have hx2 : Hid (w.heap.size < w1.heap.size) := Lib.hid X1.out.lt
  obtain ⟨w3, hw3⟩ : ∃ w3, w1.alloc (.map #[] 0) = w3 := ⟨_, rfl⟩
  rw [hw3] at B3 L3 X3 O3 ⊢
  clear hw3
  have hne : w1.heap.size ≠ h := by have := hh2.out; omega
  have L4 : Hid (Lies (w3.setCell ⟨h, 0, none⟩ (.map (some w1.heap.size))) h 60 #[.map (some w1.heap.size), .int .i64 given]) := Lib.hid (by simpa using L3.out.set_ 0 (.map (some w1.heap.size)))
  have X4 : Hid (Lies (w3.setCell ⟨h, 0, none⟩ (.map (some w1.heap.size))) w.heap.size 32 #[.int .i64 a1, .int .i64 a2, .int .i64 a3, .int .i64 a4, .int .i64 a5, .int .i64 a6, .int .i64 a7, .slice p n c]) :=
    Lib.hid (X3.out.like (Below.heap_setCell w3 ⟨h, 0, none⟩ _ _ (by have := HL.out; simp only; omega)))
  have O4 := Lib.hid (Ms.own_like O3.out (Below.heap_setCell w3 ⟨h, 0, none⟩ (.map (some w1.heap.size)) w1.heap.size hne))
  have T4 := Lib.hid ((Turn.of_below (S := fun k => k = h) B3.out).setCell (p := ⟨h, 0, none⟩) (.inl rfl) (.map (some w1.heap.size)))
  generalize w3.setCell ⟨h, 0, none⟩ (.map (some w1.heap.size)) = w4 at *
  have l0 : w4.cell? ⟨h, 0, none⟩ = some (.map (some w1.heap.size)) := L4.out.cell 0
  have x0 : w4.cell? ⟨w.heap.size, 0, none⟩ = some (.int .i64 a1) := X4.out.cell 0
  have x1 : w4.cell? ⟨w.heap.size, 1, none⟩ = some (.int .i64 a2) := X4.out.cell 1
  have x2 : w4.cell? ⟨w.heap.size, 2, none⟩ = some (.int .i64 a3) := X4.out.cell 2
  have x3 : w4.cell? ⟨w.heap.size, 3, none⟩ = some (.int .i64 a4) := X4.out.cell 3
  have x4 : w4.cell? ⟨w.heap.size, 4, none⟩ = some (.int .i64 a5) := X4.out.cell 4
  have x5 : w4.cell? ⟨w.heap.size, 5, none⟩ = some (.int .i64 a6) := X4.out.cell 5
  have x6 : w4.cell? ⟨w.heap.size, 6, none⟩ = some (.int .i64 a7) := X4.out.cell 6
  have x7 : w4.cell? ⟨w.heap.size, 7, none⟩ = some (.slice p n c) := X4.out.cell 7
  generalize w1.heap.size = q at *
  have HN := Lib.hid hne
  clear hne
  go_still_tail 7, (by kernel_rfl)
  repeat still_step
  refine wpList_mapUpdate_own w4.drew rfl _ _ _ 58 rfl 3 32 Ms.lawI Try.underlying58 (Ms.rdF Lf) q 0 (.map []) rfl O4.out.drew (by decide) _ _ (.int .i64 a1) rfl rfl HKEY.out _ [] HD.out ?_
  intro w5 hown5 hg5
  have T5 := Lib.hid (T4.out.drew.grown hg5 (fun k hk => .inr (by have := Option.some.inj hk; have := hx2.out; omega)))
  have L5 : Hid (Lies w5 h 60 #[.map (some q), .int .i64 given]) := Lib.hid (L4.out.like (hg5.block h L4.out.lt (fun e => HN.out (Option.some.inj e).symm)))
  have O5 := Lib.hid hown5
  clear hown5 hg5 l0 x0 x1 x2 x3 x4 x5 x6 x7
  go_wp2
  go_end0
  exact ⟨rfl, q, by have := hx2.out; omega, L5.out, O5.out, T5.out⟩
set_option maxRecDepth 100000 in
set_option maxHeartbeats 4000000 in
/-- There is a map. -/
theorem pkeep_more (h q m : Nat) (D : DataW Unit) (given : Int) (r : Lr) (w : World) (hl : Lies w h 60 #[.map (some q), .int .i64 given]) (hown : w.ownsMap Try.prog 3 (Ms.rdF Lf) q m D) (hn : m < maxLen) (hm : Ms.In64 r.id) :
    Calls Try.prog 24 #[.pointer (some ⟨h, 0, none⟩), rval r] w fun e w' => e = .returned (.tuple #[]) ∧
      w'.ownsMap Try.prog 3 (Ms.rdF Lf) q (m + 1) (D.put (.int .i64 r.id) (rdat r)) ∧ Turn (fun k => k = q) w w' := by
  have HKEY := Lib.hid (Ms.key_of hm)
  have HD := Lib.hid (Ms.rd_mk (Fm := Lf) r)
  have HO := Lib.hid hown
  have HQ := Lib.hid hown.lt
  clear hown
  obtain ⟨a1, a2, a3, a4, a5, a6, a7, p, n, c⟩ := r
  simp only [Lf, rval] at HKEY HD HO ⊢
  have B1 := Lib.hid (alloc_below w (.cells #[.int .i64 a1, .int .i64 a2, .int .i64 a3, .int .i64 a4, .int .i64 a5, .int .i64 a6, .int .i64 a7, .slice p n c] 32))
  have L1 := Lib.hid (hl.alloc (.cells #[.int .i64 a1, .int .i64 a2, .int .i64 a3, .int .i64 a4, .int .i64 a5, .int .i64 a6, .int .i64 a7, .slice p n c] 32))
  have X1 := Lib.hid (Lies.new w 32 #[.int .i64 a1, .int .i64 a2, .int .i64 a3, .int .i64 a4, .int .i64 a5, .int .i64 a6, .int .i64 a7, .slice p n c])
  obtain ⟨w1, hw1⟩ : ∃ w1, w.alloc (.cells #[.int .i64 a1, .int .i64 a2, .int .i64 a3, .int .i64 a4, .int .i64 a5, .int .i64 a6, .int .i64 a7, .slice p n c] 32) = w1 := ⟨_, rfl⟩
  rw [hw1] at B1 L1 X1
  have l1 : w1.cell? ⟨h, 0, none⟩ = some (.map (some q)) := L1.out.cell 0
  have EN := fun W => run_eql_map_nil (P := Try.prog) W 58 3 32 (some q) Try.underlying58
  clear hl hm
  go_enter Try.func24, Try.ntmps24
  go_wp2_with fail
  clear hw1 EN
  have O2 := Lib.hid (Ms.own_like HO.out (show w1.drew.heap[q]? = w.heap[q]? from B1.out.block q HQ.out))
  have x0 : w1.cell? ⟨w.heap.size, 0, none⟩ = some (.int .i64 a1) := X1.out.cell 0
  have x1 : w1.cell? ⟨w.heap.size, 1, none⟩ = some (.int .i64 a2) := X1.out.cell 1
  have x2 : w1.cell? ⟨w.heap.size, 2, none⟩ = some (.int .i64 a3) := X1.out.cell 2
  have x3 : w1.cell? ⟨w.heap.size, 3, none⟩ = some (.int .i64 a4) := X1.out.cell 3
  have x4 : w1.cell? ⟨w.heap.size, 4, none⟩ = some (.int .i64 a5) := X1.out.cell 4
  have x5 : w1.cell? ⟨w.heap.size, 5, none⟩ = some (.int .i64 a6) := X1.out.cell 5
  have x6 : w1.cell? ⟨w.heap.size, 6, none⟩ = some (.int .i64 a7) := X1.out.cell 6
  have x7 : w1.cell? ⟨w.heap.size, 7, none⟩ = some (.slice p n c) := X1.out.cell 7
  go_still_tail 7, (by kernel_rfl)
  repeat still_step
  refine wpList_mapUpdate_own w1.drew rfl _ _ _ 58 rfl 3 32 Ms.lawI Try.underlying58 (Ms.rdF Lf) q m D rfl O2.out hn _ _ (.int .i64 a1) rfl rfl HKEY.out _ [] HD.out ?_
  intro w5 hown5 hg5
  have T5 := Lib.hid (((Turn.of_below (S := fun k => k = q) B1.out).drew).grown hg5 (fun k hk => .inl (Option.some.inj hk).symm))
  have O5 := Lib.hid hown5
  clear hown5 hg5 l1 x0 x1 x2 x3 x4 x5 x6 x7
  go_wp2
  go_end0
  exact ⟨rfl, O5.out, T5.out⟩
/-- A list of lots, one of them put. -/
structure Nx (L : List Lv) (y' : Lv) (L' : List Lv) : Prop where
  put : ∀ D, Maps.Tidy D → Ms.Mp Lf Lr.id D (L.map raw) → Ms.Mp Lf Lr.id (D.put (.int .i64 y'.x.id) (rdat (raw y'))) (L'.map raw)
  mem : ∀ y ∈ L', y ∈ L ∨ y = y'
theorem nx_app {L : List Lv} {y' : Lv} (hn : ∀ y ∈ L, y.x.id ≠ y'.x.id) : Nx L y' (L ++ [y']) :=
  ⟨fun D ht h => by
    rw [List.map_append]
    exact mp_app h ht (x := raw y') (fun r hr => by
      obtain ⟨y, hy, rfl⟩ := List.mem_map.1 hr
      exact hn y hy), fun y hy => (List.mem_append.1 hy).imp id List.mem_singleton.1⟩
theorem nx_set {L : List Lv} {y y' : Lv} {i : Nat} (hS : Apt (L.map raw)) (hi : L[i]? = some y) (he : y.x.id = y'.x.id) : Nx L y' (L.set i y') :=
  ⟨fun D ht h => by
    rw [List.map_set]
    exact mp_set h ht hS (x := raw y') (y := raw y) (by rw [List.getElem?_map, hi]; rfl) he, fun y hy => List.mem_or_eq_of_mem_set hy⟩
theorem bks_nx {L L' : List Lv} {y' : Lv} (h : Nx L y' L') {k : Nat} (hk : Bks L' k) : Bks L k ∨ Bk y' k := by
  obtain ⟨y, hy, hk⟩ := hk
  rcases h.mem y hy with h1 | rfl
  · exact .inl ⟨y, h1, hk⟩
  · exact .inr hk
/-- A lot is kept. -/
theorem pkeep_any (B h : Nat) (mo : Option Nat) (given : Int) (L L' : List Lv) (y' : Lv) (w : World) (hp : PL w B h mo given L) (hx : Nx L y' L') (hy : St w y') (hm : Ms.In64 y'.x.id) (hB : B ≤ w.heap.size) (ha : ∀ k, Bk y' k → B ≤ k ∧ k ≠ h ∧ mo ≠ some k) (hL : L.length ≤ 1000) :
    Calls Try.prog 24 #[.pointer (some ⟨h, 0, none⟩), lval y'] w fun e w' => e = .returned (.tuple #[]) ∧
      ∃ q, (mo = some q ∨ w.heap.size ≤ q) ∧ PL w' B h (some q) given L' ∧ Turn (fun k => k = h ∨ mo = some k) w w' := by
  have hlt := hp.blk.lt
  have key : ∀ (q : Nat) (w' : World), (mo = some q ∨ w.heap.size ≤ q) → Lies w' h 60 #[.map (some q), .int .i64 given] → Ms.Tab Lf Lr.id w' B (some q) (L'.map raw) → Turn (fun k => k = h ∨ mo = some k) w w' → PL w' B h (some q) given L' := by
    intro q w' hq hl ht hT
    have hk2 : ∀ k, Bks L' k → (B ≤ k ∧ k ≠ h ∧ mo ≠ some k) ∧ k < w.heap.size := fun k hk => by
      rcases bks_nx hx hk with h1 | h1
      · exact ⟨hp.apart k h1, bks_lt hp.stays h1⟩
      · exact ⟨ha k h1, hy.lt h1⟩
    refine ⟨hp.base, hl, ht, fun y hy' => ?_, fun k hk => ?_⟩
    · have hs : St w y := (hx.mem y hy').elim (hp.stays y) (fun e => e ▸ hy)
      exact hs.turn hT (fun k hk hh => by
        have := (hk2 k ⟨y, hy', hk⟩).1
        rcases hh with rfl | hh
        · exact this.2.1 rfl
        · exact this.2.2 hh)
    · obtain ⟨⟨h1, h2, h3⟩, h4⟩ := hk2 k hk
      refine ⟨h1, h2, fun e => ?_⟩
      have e' := Option.some.inj e
      subst e'
      rcases hq with hq | hq
      · exact h3 hq
      · omega
  rcases hp.tab with ⟨rfl, hS⟩ | ⟨q, D, rfl, hBq, hown, hM⟩
  · refine (pkeep_first h given (raw y') w hp.blk hm).mono ?_
    rintro e w' ⟨rfl, q, hq, hl, ho, hT⟩
    have hM : Ms.Mp Lf Lr.id (.map []) (L.map raw) := by
      rw [hS]
      exact Ms.mp_nil
    have hM' := hx.put _ Maps.tidy_empty hM
    have hT' : Turn (fun k => k = h ∨ none = some k) w w' := hT.mono (fun i _ hi => .inl hi)
    refine ⟨rfl, q, .inr hq, key q w' (.inr hq) hl (.inr ⟨q, _, rfl, by omega, ?_, hM'⟩) hT', hT'⟩
    have := Ms.own_tight ho
    rw [show Maps.size ((DataW.map []).put (.int .i64 (raw y').id) (rdat (raw y'))) = (L'.map raw).length from hM'.size] at this
    exact this
  · have hne : q ≠ h := fun e => Ms.tab_ne hp.tab hp.blk (by rw [e])
    refine (pkeep_more h q _ D given (raw y') w hp.blk hown (by rw [List.length_map]; unfold maxLen; omega) hm).mono ?_
    rintro e w' ⟨rfl, ho, hT⟩
    have hM' := hx.put _ (hown.tidy Ms.lawI) hM
    have hT' : Turn (fun k => k = h ∨ some q = some k) w w' := hT.mono (fun i _ hi => .inr (by rw [hi]))
    refine ⟨rfl, q, .inl rfl, key q w' (.inl rfl) (hp.blk.turn hT (fun e => hne e.symm)) (.inr ⟨q, _, rfl, hBq, ?_, hM'⟩) hT', hT'⟩
    have := Ms.own_tight ho
    rw [show Maps.size (D.put (.int .i64 (raw y').id) (rdat (raw y'))) = (L'.map raw).length from hM'.size] at this
    exact this
end Lo
end Go.Proofs.Ytkfmkchonlajpaa

namespace Go.Proofs.Ytkfmkchonlajpaa
open Go.RowKit Go.Maps

namespace Lo
/-- A goal at which a walk stops. -/
def Stay (p : Prop) : Prop := p
theorem stay {p : Prop} (h : p) : Stay p := h
theorem unstay {p : Prop} (h : Stay p) : p := h
/-- What of lots that were met is in a zone. -/
def msum (z : Int) (left : Lit → Bool) : List Lv → Int
  | [] => 0
  | y :: L => (if left (.int .i64 y.x.id) = true then 0 else addL z y.x) + msum z left L
theorem msum_all {z : Int} {left : Lit → Bool} : ∀ {L : List Lv}, (∀ y ∈ L, left (.int .i64 y.x.id) = true) → msum z left L = 0
  | [], _ => rfl
  | y :: L, h => by
    unfold msum
    rw [if_pos (h y (by simp)), msum_all (fun z hz => h z (List.mem_cons_of_mem _ hz))]
    omega
theorem fold_add (z : Int) : ∀ (l : List Lt) (n : Int), l.foldl (fun n x => n + addL z x) n = n + l.foldl (fun n x => n + addL z x) 0
  | [], n => by simp
  | x :: l, n => by
    rw [List.foldl_cons, List.foldl_cons, fold_add z l (n + addL z x), fold_add z l (0 + addL z x)]
    omega
theorem msum_none {z : Int} {left : Lit → Bool} (h : ∀ k, left k = false) : ∀ L : List Lv, msum z left L = loadL (lts L) z
  | [] => rfl
  | y :: L => by
    unfold msum
    rw [if_neg (by rw [h]; exact Bool.false_ne_true), msum_none h L]
    show addL z y.x + loadL (lts L) z = loadL (y.x :: lts L) z
    rw [loadL, loadL, List.foldl_cons, fold_add z _ (0 + addL z y.x)]
    omega
theorem msum_same {z : Int} {left left' : Lit → Bool} : ∀ {L : List Lv}, (∀ y ∈ L, left' (.int .i64 y.x.id) = left (.int .i64 y.x.id)) → msum z left' L = msum z left L
  | [], _ => rfl
  | y :: L, h => by
    unfold msum
    rw [h y (by simp), msum_same (fun z hz => h z (List.mem_cons_of_mem _ hz))]
theorem strike_other {left : Lit → Bool} {a k : Int} (h : a ≠ k) : (left (.int .i64 a) && !(Lit.int .i64 a).sameKey (.int .i64 k)) = left (.int .i64 a) := by
  rw [Maps.sameKey_ne (Ms.lit_ne h)]
  simp
theorem strike_self {left : Lit → Bool} {k : Int} : (left (.int .i64 k) && !(Lit.int .i64 k).sameKey (.int .i64 k)) = false := by
  rw [WideAt.sameKey_self (Ms.key_lit k)]
  simp
/-- One more is met. -/
theorem msum_step {z : Int} {left : Lit → Bool} : ∀ {L : List Lv} {y : Lv}, L.Pairwise (fun a b => a.x.id ≠ b.x.id) → y ∈ L → left (.int .i64 y.x.id) = true → msum z (fun k => left k && !k.sameKey (.int .i64 y.x.id)) L = msum z left L + addL z y.x
  | [], y, _, h, _ => by simp at h
  | x :: L, y, hp, hy, hl => by
    obtain ⟨h1, h2⟩ := List.pairwise_cons.1 hp
    rcases List.mem_cons.1 hy with rfl | hy
    · unfold msum
      rw [if_neg (by rw [strike_self]; exact Bool.false_ne_true), if_pos hl, msum_same (fun w hw => strike_other (h1 w hw).symm)]
      omega
    · unfold msum
      rw [strike_other (h1 y hy), msum_step h2 hy hl]
      omega
theorem msum_bounds {z : Int} {left : Lit → Bool} : ∀ {L : List Lv}, (∀ y ∈ L, 1 ≤ y.x.units) → 0 ≤ msum z left L ∧ msum z left L ≤ ((lts L).map Lt.units).sum
  | [], _ => by simp [msum, lts]
  | y :: L, h => by
    have ih := msum_bounds (z := z) (left := left) (fun z hz => h z (List.mem_cons_of_mem _ hz))
    have hy := h y (by simp)
    have ha : 0 ≤ addL z y.x ∧ addL z y.x ≤ y.x.units := by
      unfold addL
      split <;> omega
    simp only [msum, lts, List.map_cons, List.sum_cons] at *
    split <;> omega
theorem good_msum {L : List Lv} {g : Int} (h : Good (lts L, g)) (z : Int) (left : Lit → Bool) : 0 ≤ msum z left L ∧ msum z left L ≤ 268435456 := by
  have h1 := msum_bounds (z := z) (left := left) (L := L) (fun y hy => h.units y.x (List.mem_map.2 ⟨y, hy, rfl⟩))
  have h2 := h.sum
  have h3 := h.given
  simp only at h2 h3
  omega
theorem good_apt {L : List Lv} {g : Int} (h : Good (lts L, g)) : L.Pairwise (fun a b => a.x.id ≠ b.x.id) := by
  have := h.ids
  simp only [lts] at this
  exact (List.pairwise_map.1 this).imp (fun h => by omega)
theorem good_aptR {L : List Lv} {g : Int} (h : Good (lts L, g)) : Apt (L.map raw) := List.pairwise_map.2 (good_apt h)
theorem load_zero (l : List Lt) : loadL l 0 = 0 := by
  have : ∀ (l : List Lt) (n : Int), l.foldl (fun n x => n + addL 0 x) n = n := by
    intro l
    induction l with
    | nil => intro n; rfl
    | cons x l ih =>
      intro n
      rw [List.foldl_cons, ih]
      simp [addL]
  exact this l 0
theorem below_grown {w w' : World} (h : Below w.heap.size w w') : w.grownBy w' none := ⟨h.os, h.tape, h.output, h.size, fun i hi _ => h.block i hi⟩
/-- What a step of the range tells. -/
structure LStep (w w' : World) (b r n : Nat) (D : DataW Unit) (left : Lit → Bool) (cnt cnt' : Nat) (km : Int) (x : Lr) : Prop where
  was : left (.int .i64 km) = true
  at_ : ∀ zd, D.atKey (.int .i64 km) zd = rdat x
  goes : w'.ranges Try.prog 3 (Ms.rdF Lf) b r n D (fun z => left z && !z.sameKey (.int .i64 km)) cnt'
  less : cnt' < cnt
  grown : w.grownBy w' (some r)
  size : w'.heap.size = w.heap.size
theorem next_lot (w : World) {ops : Array Oper} {rest : List Oper} {o : Oper} {a : Act} {Q : Exit → Act → World → Prop}
    (hg : o.guard = none) (it : Operand) (hop : o.op = Op.next it false)
    (b r n : Nat) (D : DataW Unit) (left : Lit → Bool) (cnt : Nat) (hit : a.eval it = .pointer (some ⟨r, 0, none⟩)) (h : w.ranges Try.prog 3 (Ms.rdF Lf) b r n D left cnt)
    (hDone : Hid (∀ kl, left kl = false) → wpList Try.prog ops Q rest (a.put o.dst (.tuple #[.bool false])) w)
    (hMore : ∀ (km : Int) (x : Lr) (w' : World) (cnt' : Nat), LStep w w' b r n D left cnt cnt' km x →
      (Instr.entry (.pointer (some ⟨r, 0, none⟩))).run Try.prog w' = .ok (.tuple #[.int .i64 km, rval x]) w' →
      wpList Try.prog ops Q rest (a.put o.dst (.tuple #[.bool true, .int .i64 km, rval x])) w') :
    wpList Try.prog ops Q (o :: rest) a w :=
  wpList_next_ranges w hg it hop 3 Ms.lawI (Ms.rdF Lf) (Value.int .i64) rval
    (fun key kl hkey => by obtain ⟨m, e, _⟩ := Maps.keyOf_i64 Try.underlying3 hkey; exact ⟨m, e⟩) (fun v y hv => by obtain ⟨x, rfl, _⟩ := Ms.rd_inv hv; exact ⟨x, rfl⟩)
    b r n D left cnt hit h (fun _ hl => hDone (Lib.hid hl)) (fun x c kl y w' cnt' hkey hlk hv hat hrg hlt hgr hsz hen => by
      obtain ⟨m, e1, rfl, _⟩ := Maps.keyOf_i64 Try.underlying3 hkey
      injection e1 with _ e1
      subst e1
      obtain ⟨c', ec, rfl⟩ := Ms.rd_inv hv
      have := Lf.inj (show Lf.enc c = Lf.enc c' from ec)
      subst this
      exact hMore x c w' cnt' ⟨hlk, hat, hrg, hlt, hgr, hsz⟩ hen)
/-- What came is one of the lots. -/
theorem here_lot {D : DataW Unit} {L : List Lv} (h : Ms.Mp Lf Lr.id D (L.map raw)) {km : Int} {x : Lr} (hat : ∀ zd, D.atKey (.int .i64 km) zd = rdat x) : ∃ y ∈ L, raw y = x ∧ y.x.id = km := by
  obtain ⟨r, hr, e⟩ := h.only km (Maps.has_true_of_atKey hat)
  have h3 := h.each r hr (.lit (.bool true))
  rw [e, hat] at h3
  have h4 := Lf.dinj (show Lf.dat x = Lf.dat r from h3)
  subst h4
  obtain ⟨y, hy, rfl⟩ := List.mem_map.1 hr
  exact ⟨y, hy, rfl, e⟩
theorem pload_nil (z : Int) (w : World) : Calls Try.prog 11 #[.pointer none, .int .i64 z] w fun e w' => e = .returned (.int .i64 0) ∧ Below w.heap.size w w' := by
  go_enter Try.func11, Try.ntmps11
  go_wp2
  go_ret
  exact ⟨rfl, Below.refl _ _⟩
theorem pload_zero (h : Nat) (w : World) : Calls Try.prog 11 #[.pointer (some ⟨h, 0, none⟩), .int .i64 0] w fun e w' => e = .returned (.int .i64 0) ∧ Below w.heap.size w w' := by
  go_enter Try.func11, Try.ntmps11
  go_wp2
  go_ret
  exact ⟨rfl, Below.refl _ _⟩
set_option maxRecDepth 100000 in
set_option maxHeartbeats 4000000 in
theorem pload_none (h : Nat) (given z : Int) (hz : z ≠ 0) (w : World) (hl : Lies w h 60 #[.map none, .int .i64 given]) : Calls Try.prog 11 #[.pointer (some ⟨h, 0, none⟩), .int .i64 z] w fun e w' => e = .returned (.int .i64 0) ∧ Below w.heap.size w w' := by
  have l0 : w.cell? ⟨h, 0, none⟩ = some (.map none) := hl.cell 0
  have e1 := run_range_nilMap (P := Try.prog) w 58 3 32 Try.underlying58
  have e2 := fun ty => run_next_nilMap (P := Try.prog) w ty 0 0 #[]
  have B2 := Lib.hid (alloc_below w (.mapIter none 0 #[] 0))
  have hz1 : (z == 0) = false := by simp [hz]
  clear hl hz
  go_enter Try.func11, Try.ntmps11
  go_wp2
  refine wp_loop_rounds 1 ?_
  rw [rounds_succ]
  go_wp2
  go_ret
  exact ⟨rfl, B2.out⟩
set_option maxRecDepth 100000 in
set_option maxHeartbeats 4000000 in
theorem pload_map (h b : Nat) (D : DataW Unit) (given z : Int) (L : List Lv) (hz : z ≠ 0) (w : World) (hl : Lies w h 60 #[.map (some b), .int .i64 given]) (hown : w.ownsMap Try.prog 3 (Ms.rdF Lf) b (L.map raw).length D) (hM : Ms.Mp Lf Lr.id D (L.map raw)) (hs : ∀ y ∈ L, St w y) (hG : Good (lts L, given)) :
    Calls Try.prog 11 #[.pointer (some ⟨h, 0, none⟩), .int .i64 z] w fun e w' => e = .returned (.int .i64 (loadL (lts L) z)) ∧ Below w.heap.size w w' := by
  have HM := Lib.hid hM
  have HG := Lib.hid hG
  have HSt := Lib.hid hs
  have HL := Lib.hid hl
  have l0 : w.cell? ⟨h, 0, none⟩ = some (.map (some b)) := hl.cell 0
  have hz1 : (z == 0) = false := by simp [hz]
  have HB := Lib.hid hown.lt
  have HZ := Lib.hid hz
  have HOW := Lib.hid hown
  generalize (L.map raw).length = N at *
  clear hM hG hs hl hz hown
  go_enter Try.func11, Try.ntmps11
  go_wp2_with (at_range; refine wpList_range_own _ rfl _ 58 rfl 3 32 Ms.lawI Try.underlying58 _ b N D rfl HOW.out ?_; intro w2 hrg2 hg2 hs2)
  go_frame
  clear l0
  have RG2 := Lib.hid hrg2
  have B2 := Lib.hid ((Below.refl w.heap.size w).grown hg2 (Nat.le_refl _) (fun k hk => by cases hk))
  clear hrg2 hg2 hs2
  have M0 := Lib.hid (msum_all (z := z) (left := Maps.has D) (L := L) (fun y hy => Maps.has_true_of_atKey (HM.out.each (raw y) (List.mem_map.2 ⟨y, hy, rfl⟩))))
  go_loopw [5] (fun o wr => ∃ (left : Lit → Bool) (cnt : Nat), o = .int .i64 (msum z left L) ∧ Hid (wr.ranges Try.prog 3 (Ms.rdF Lf) b w.heap.size N D left cnt) ∧ Hid (Below w.heap.size w wr)) (fun _ wr => wr.rangeLeft b w.heap.size)
  case atStart => exact ⟨_, _, by rw [M0.out], RG2, B2⟩
  case round =>
    obtain ⟨left, cnt, rfl, RG, BW⟩ := hrel
    clear RG2 B2 M0
    go_wp2_with (at_next; refine next_lot _ rfl _ rfl b w.heap.size N D left cnt rfl RG.out (fun hl0 => unstay ?_) (fun km x w3 cnt3 hst hen => unstay ?_))
    · refine stay ?_
      have E := Lib.hid (msum_none (z := z) hl0.out L)
      clear hl0
      go_wp2
      go_ret
      exact ⟨by rw [← E.out]; rfl, BW.out⟩
    · obtain ⟨y, hy, hyx, hyk⟩ := here_lot HM.out hst.at_
      subst hyx
      subst hyk
      have MS := Lib.hid (msum_step (z := z) (good_apt HG.out) hy hst.was)
      have MB := Lib.hid (good_msum HG.out z left)
      have MU := Lib.hid (good_units HG.out (x := y.x) (List.mem_map.2 ⟨y, hy, rfl⟩))
      have HN := Lib.hid (show y.n ≤ 1000000 by
        have := HG.out.long y.x (List.mem_map.2 ⟨y, hy, rfl⟩)
        rw [(HSt.out y hy).len] at this
        omega)
      have B3 := Lib.hid (BW.out.grown hst.grown BW.out.size (fun k hk => by have := Option.some.inj hk; omega))
      have RG3 := Lib.hid hst.goes
      have HLs := Lib.hid hst.less
      have ST3 := Lib.hid (fun W (hW : Below w.heap.size w W) => (HSt.out y hy).keep hW)
      have hA : addL z y.x = if inL y.x = z then y.x.units else 0 := by
        unfold addL
        by_cases h1 : inL y.x = z
        · rw [if_pos ⟨h1, HZ.out⟩, if_pos h1]
        · rw [if_neg (fun h2 => h1 h2.1), if_neg h1]
      rw [hA] at MS
      have CW := Lib.hid (fun W (hW : Below w.heap.size w W) => pwhere_any y W (ST3.out W hW) HN.out)
      generalize hin : inL y.x = zi at *
      generalize hms : msum z left L = ms at *
      generalize hid : msum z (fun k => left k && !k.sameKey (.int .i64 y.x.id)) L = ms2 at *
      clear hst hy hA HN ST3
      obtain ⟨⟨i1, i2, i3, i4, i5, i6, i7, S⟩, p, n, c⟩ := y
      simp only [raw, rval, lval] at *
      have RG4 := Lib.hid (RG3.out.alloc (.cells #[.int .i64 i1, .int .i64 i2, .int .i64 i3, .int .i64 i4, .int .i64 i5, .int .i64 i6, .int .i64 i7, .slice p n c] 32))
      have B4 := Lib.hid (B3.out.alloc B3.out.size (.cells #[.int .i64 i1, .int .i64 i2, .int .i64 i3, .int .i64 i4, .int .i64 i5, .int .i64 i6, .int .i64 i7, .slice p n c] 32))
      have X4 := Lib.hid (Lies.new w3 32 #[.int .i64 i1, .int .i64 i2, .int .i64 i3, .int .i64 i4, .int .i64 i5, .int .i64 i6, .int .i64 i7, .slice p n c])
      have x2 : (w3.alloc (.cells #[.int .i64 i1, .int .i64 i2, .int .i64 i3, .int .i64 i4, .int .i64 i5, .int .i64 i6, .int .i64 i7, .slice p n c] 32)).cell? ⟨w3.heap.size, 2, none⟩ = some (.int .i64 i3) := X4.out.cell 2
      refine stay ?_
      go_wp2_with fail
      refine (CW.out _ B4.out).mono ?_
      rintro e w5 ⟨rfl, hb⟩
      have B5 := Lib.hid (B4.out.trans (hb.mono B4.out.size))
      have RG5 := Lib.hid (RG4.out.kept (below_grown hb) (by simp) (by simp))
      have X5 := Lib.hid (X4.out.below hb X4.out.lt)
      clear x2 hb
      have x2 : w5.cell? ⟨w3.heap.size, 2, none⟩ = some (.int .i64 i3) := X5.out.cell 2
      clear X4 X5 B4 RG4 CW
      have mb := MB.out
      have mu := MU.out
      by_cases hc : zi = z
      · have hc1 : (zi == z) = true := by simp [hc]
        have E2 := Lib.hid (show ms2 = ms + i3 by rw [MS.out, if_pos hc])
        clear hc MS
        go_wp2
        go_roundw
        case rel => exact ⟨_, cnt3, by rw [hid, E2.out], RG5, B5⟩
        case measure =>
          rw [RG5.out.left_eq, RG.out.left_eq]
          exact HLs.out
      · have hc1 : (zi == z) = false := by simp [hc]
        have E2 := Lib.hid (show ms2 = ms by rw [MS.out, if_neg hc]; omega)
        clear hc MS
        go_wp2
        go_roundw
        case rel => exact ⟨_, cnt3, by rw [hid, E2.out], RG5, B5⟩
        case measure =>
          rw [RG5.out.left_eq, RG.out.left_eq]
          exact HLs.out
/-- A zone's load. -/
theorem pload_any (B h : Nat) (mo : Option Nat) (given z : Int) (L : List Lv) (w : World) (hp : PL w B h mo given L) (hG : Good (lts L, given)) :
    Calls Try.prog 11 #[.pointer (some ⟨h, 0, none⟩), .int .i64 z] w fun e w' => e = .returned (.int .i64 (loadL (lts L) z)) ∧ Below w.heap.size w w' := by
  by_cases hz : z = 0
  · subst hz
    rw [load_zero]
    exact pload_zero h w
  rcases hp.tab with ⟨rfl, hS⟩ | ⟨b, D, rfl, _, hown, hM⟩
  · have hL : L = [] := by simpa using hS
    subst hL
    exact pload_none h given z hz w hp.blk
  · exact pload_map h b D given z L hz w hp.blk hown hM hp.stays hG
end Lo
end Go.Proofs.Ytkfmkchonlajpaa

namespace Go.Proofs.Ytkfmkchonlajpaa
open Go.RowKit Go.Maps

namespace Lo
set_option maxRecDepth 100000 in
set_option maxHeartbeats 4000000 in
/-- A master's zone. -/
theorem pfind_any (M : Ms.Face) (Bm hm : Nat) (Fm : Nat → Prop) (Z : List Ms.Zn) (P : List Ms.Pd) (zone : Int) (w : World) (hM : M.DB w Bm hm Fm Z P) (hz : I64 zone) :
    Calls Try.prog 38 #[.pointer (some ⟨hm, 0, none⟩), .int .i64 zone] w fun e w' => e = .returned (.tuple #[Ms.zval ((Ms.findK Ms.Zn.id zone Z).getD Ms.zn0), .bool (Ms.findK Ms.Zn.id zone Z).isSome]) ∧ Below w.heap.size w w' := by
  have C := Lib.hid (fun W (hW : Below w.heap.size w W) => M.zone Bm hm Fm Z P zone W (M.keep hM hW) hz.1 hz.2)
  clear hM
  generalize Ms.findK Ms.Zn.id zone Z = o at *
  have B1 := Lib.hid (alloc_below w (.cells #[.int .i64 0, .int .i64 0, .int .i64 0, .int .i64 0, .bool false, .int .i64 0] 45))
  have X1 := Lib.hid (Lies.new w 45 #[.int .i64 0, .int .i64 0, .int .i64 0, .int .i64 0, .bool false, .int .i64 0])
  obtain ⟨w1, hw1⟩ : ∃ w1, w.alloc (.cells #[.int .i64 0, .int .i64 0, .int .i64 0, .int .i64 0, .bool false, .int .i64 0] 45) = w1 := ⟨_, rfl⟩
  rw [hw1] at B1 X1
  have C1 := Lib.hid (C.out w1 B1.out)
  clear C
  cases o with
  | none =>
    simp only [Ms.getK] at C1
    go_enter Try.func38, Try.ntmps38
    go_wp2_with fail
    refine C1.out.mono ?_
    rintro e w2 ⟨rfl, hb⟩
    have B2 := Lib.hid (B1.out.trans (hb.mono B1.out.size))
    have X2 := Lib.hid (X1.out.below hb X1.out.lt)
    have HS : Hid (w.heap.size < w2.heap.size) := Lib.hid X2.out.lt
    have FC : ∀ ob i, (w2.alloc ob).cell? ⟨w.heap.size, i, none⟩ = w2.cell? ⟨w.heap.size, i, none⟩ := fun ob i => (alloc_below w2 ob).cell (p := ⟨w.heap.size, i, none⟩) HS.out
    have FG : ∀ ob i, (w2.alloc ob).frozen? ⟨w.heap.size, i, none⟩ = w2.frozen? ⟨w.heap.size, i, none⟩ := fun ob i => (alloc_below w2 ob).frozen (p := ⟨w.heap.size, i, none⟩) HS.out
    clear hb hw1 X1 B1 C1
    have r0 : w2.cell? ⟨w.heap.size, 0, none⟩ = some (.int .i64 0) := X2.out.cell 0
    have r1 : w2.cell? ⟨w.heap.size, 1, none⟩ = some (.int .i64 0) := X2.out.cell 1
    have r2 : w2.cell? ⟨w.heap.size, 2, none⟩ = some (.int .i64 0) := X2.out.cell 2
    have r3 : w2.cell? ⟨w.heap.size, 3, none⟩ = some (.int .i64 0) := X2.out.cell 3
    have r4 : w2.cell? ⟨w.heap.size, 4, none⟩ = some (.bool false) := X2.out.cell 4
    have r5 : w2.cell? ⟨w.heap.size, 5, none⟩ = some (.int .i64 0) := X2.out.cell 5
    have g0 := X2.out.frozen 0
    have g1 := X2.out.frozen 1
    have g2 := X2.out.frozen 2
    have g3 := X2.out.frozen 3
    have g4 := X2.out.frozen 4
    have g5 := X2.out.frozen 5
    simp only [Ms.zval, Ms.zn0]
    go_wp2
    refine bodyPost_ret (v := .tuple #[Ms.zval Ms.zn0, .bool false]) (by simp [results, Try.results38, go_sem, Ms.zval, Ms.zn0, r0, r1, r2, r3, r4, r5, FC]) rfl ⟨rfl, ?_⟩
    iterate 6 refine Below.setCell ?_ (show w.heap.size ≤ _ from Nat.le_refl _) _
    exact B2.out.alloc B2.out.size _
  | some y =>
    obtain ⟨a, b, c, d, e, f⟩ := y
    simp only [Ms.getK] at C1
    go_enter Try.func38, Try.ntmps38
    go_wp2_with fail
    refine C1.out.mono ?_
    rintro e w2 ⟨rfl, hb⟩
    have B2 := Lib.hid (B1.out.trans (hb.mono B1.out.size))
    have X2 := Lib.hid (X1.out.below hb X1.out.lt)
    have HS : Hid (w.heap.size < w2.heap.size) := Lib.hid X2.out.lt
    have FC : ∀ ob i, (w2.alloc ob).cell? ⟨w.heap.size, i, none⟩ = w2.cell? ⟨w.heap.size, i, none⟩ := fun ob i => (alloc_below w2 ob).cell (p := ⟨w.heap.size, i, none⟩) HS.out
    have FG : ∀ ob i, (w2.alloc ob).frozen? ⟨w.heap.size, i, none⟩ = w2.frozen? ⟨w.heap.size, i, none⟩ := fun ob i => (alloc_below w2 ob).frozen (p := ⟨w.heap.size, i, none⟩) HS.out
    clear hb hw1 X1 B1 C1
    have r0 : w2.cell? ⟨w.heap.size, 0, none⟩ = some (.int .i64 0) := X2.out.cell 0
    have r1 : w2.cell? ⟨w.heap.size, 1, none⟩ = some (.int .i64 0) := X2.out.cell 1
    have r2 : w2.cell? ⟨w.heap.size, 2, none⟩ = some (.int .i64 0) := X2.out.cell 2
    have r3 : w2.cell? ⟨w.heap.size, 3, none⟩ = some (.int .i64 0) := X2.out.cell 3
    have r4 : w2.cell? ⟨w.heap.size, 4, none⟩ = some (.bool false) := X2.out.cell 4
    have r5 : w2.cell? ⟨w.heap.size, 5, none⟩ = some (.int .i64 0) := X2.out.cell 5
    have g0 := X2.out.frozen 0
    have g1 := X2.out.frozen 1
    have g2 := X2.out.frozen 2
    have g3 := X2.out.frozen 3
    have g4 := X2.out.frozen 4
    have g5 := X2.out.frozen 5
    simp only [Ms.zval]
    go_wp2
    refine bodyPost_ret (v := .tuple #[Ms.zval ⟨a, b, c, d, e, f⟩, .bool true]) (by simp [results, Try.results38, go_sem, Ms.zval, r0, r1, r2, r3, r4, r5, FC]) rfl ⟨rfl, ?_⟩
    iterate 6 refine Below.setCell ?_ (show w.heap.size ≤ _ from Nat.le_refl _) _
    exact B2.out.alloc B2.out.size _
set_option maxRecDepth 100000 in
set_option maxHeartbeats 4000000 in
/-- Whether there is room for so many more. -/
theorem proom_any (B h : Nat) (mo : Option Nat) (given : Int) (L : List Lv) (z : Ms.Zn) (units : Int) (w : World) (hp : PL w B h mo given L) (hG : Good (lts L, given)) (hu : 0 ≤ units ∧ units ≤ 268435456) :
    Calls Try.prog 41 #[.pointer (some ⟨h, 0, none⟩), Ms.zval z, .int .i64 units] w fun e w' => e = .returned (.bool (decide (loadL (lts L) z.id + units ≤ z.room))) ∧ Below w.heap.size w w' := by
  have hb := good_load hG z.id
  simp only at hb
  have CL0 := Lib.hid (fun W (hW : Below w.heap.size w W) => pload_any B h mo given z.id L W (hp.keep hW) hG)
  clear hp hG
  obtain ⟨a, b, c, d, e, f⟩ := z
  simp only [Ms.zval] at *
  generalize loadL (lts L) a = ld at *
  have B1 := Lib.hid (alloc_below w (.cells #[.int .i64 a, .int .i64 b, .int .i64 c, .int .i64 d, .bool e, .int .i64 f] 45))
  have X1 := Lib.hid (Lies.new w 45 #[.int .i64 a, .int .i64 b, .int .i64 c, .int .i64 d, .bool e, .int .i64 f])
  obtain ⟨w1, hw1⟩ : ∃ w1, w.alloc (.cells #[.int .i64 a, .int .i64 b, .int .i64 c, .int .i64 d, .bool e, .int .i64 f] 45) = w1 := ⟨_, rfl⟩
  rw [hw1] at B1 X1
  have x0 : w1.cell? ⟨w.heap.size, 0, none⟩ = some (.int .i64 a) := X1.out.cell 0
  have x3 : w1.cell? ⟨w.heap.size, 3, none⟩ = some (.int .i64 d) := X1.out.cell 3
  have i1 : IntKind.i64.wrap (ld + units) = ld + units := IntWalk.i64_in _ (by omega)
  clear X1
  go_enter Try.func41, Try.ntmps41
  go_wp2_with fail
  have cL : ∀ d os, Calls Try.prog 11 #[.pointer (some ⟨h, 0, none⟩), .int .i64 a] (Sort.grow (redrawn w1 d) os) fun e w'' => e = .returned (.int .i64 ld) ∧ ∃ q : Regrown, w'' = Sort.grow (redrawn w1 q.d) q.os :=
    fun d os => Calls.regrown_of (CL0.out _ (B1.out.trans ((below_regrown w1 d os).mono B1.out.size)))
  have k0 := cell_regrown x0
  have k3 := cell_regrown x3
  have CL := Lib.hid cL
  clear cL x0 x3 hw1 CL0
  refine wp_region_quiet_below (by kernel_rfl) (by kernel_rfl) ?_
  repeat (go_big_quiet_step (with_reducible exact CL.out _ _))
  refine wpQuiet_nil ?_
  intro _ hw'
  obtain ⟨⟨dq, osq⟩, hw''⟩ := hw'
  subst hw''
  go_wp2
  go_ret
  exact ⟨rfl, B1.out.trans ((below_regrown w1 dq osq).mono B1.out.size)⟩
end Lo
end Go.Proofs.Ytkfmkchonlajpaa

namespace Go.Proofs.Ytkfmkchonlajpaa
open Go.RowKit Go.Maps

namespace Lo
theorem PL.regiven {w w' : World} {B h : Nat} {mo : Option Nat} {given g' : Int} {L : List Lv} (hp : PL w B h mo given L) (hl : Lies w' h 60 #[.map mo, .int .i64 g']) (ht : Turn (fun k => k = h) w w') : PL w' B h mo g' L :=
  ⟨hp.base, hl, Ms.tab_turn hp.tab ht (fun _ hk e => Ms.tab_ne hp.tab hp.blk (e ▸ hk)), fun y hy => (hp.stays y hy).turn ht (fun k hk e => (hp.apart k ⟨y, hy, hk⟩).2.1 e), hp.apart⟩
/-- A lot of another number. -/
def renum (y : Lv) (n : Int) : Lv := { y with x := { y.x with id := n } }
theorem st_renum {W : World} {y : Lv} (h : St W y) (n : Int) : St W (renum y n) := h
set_option maxRecDepth 100000 in
set_option maxHeartbeats 4000000 in
theorem padd_any (B h : Nat) (mo : Option Nat) (given : Int) (L : List Lv) (y : Lv) (w : World) (hp : PL w B h mo given L) (hy : St w y) (hg : 0 ≤ given ∧ given ≤ 1000) (hn : ∀ z ∈ L, z.x.id ≠ given + 1) (hB : B ≤ w.heap.size) (ha : ∀ k, Bk y k → B ≤ k ∧ k ≠ h ∧ mo ≠ some k) (hL : L.length ≤ 1000) :
    Calls Try.prog 43 #[.pointer (some ⟨h, 0, none⟩), lval y] w fun e w' => e = .returned (.int .i64 (given + 1)) ∧
      ∃ q, (mo = some q ∨ w.heap.size ≤ q) ∧ PL w' B h (some q) (given + 1) (L ++ [renum y (given + 1)]) ∧ Turn (fun k => k = h ∨ mo = some k) w w' := by
  have HP := Lib.hid hp
  have HY := Lib.hid hy
  have HA := Lib.hid ha
  have HX := Lib.hid (nx_app (y' := renum y (given + 1)) hn)
  have HK := Lib.hid (fun (W : World) (hp : PL W B h mo (given + 1) L) (hy : St W y) (hB : B ≤ W.heap.size) => pkeep_any B h mo (given + 1) L (L ++ [renum y (given + 1)]) (renum y (given + 1)) W hp HX.out (st_renum hy _) (Ms.in64_of (m := given + 1) (by omega) (by omega)) hB HA.out hL)
  have HL := Lib.hid hp.blk
  have HBB := Lib.hid hB
  have hmo : mo ≠ some w.heap.size := fun e => by have := (Ms.tab_lt hp.tab e).2; omega
  have HM := Lib.hid hmo
  have HH := Lib.hid hp.blk.lt
  have iw : IntKind.i64.wrap (given + 1) = given + 1 := IntWalk.i64_in _ (by omega)
  clear hp hy ha hn hB hmo
  obtain ⟨⟨i1, i2, i3, i4, i5, i6, i7, S⟩, p, n, c⟩ := y
  simp only [lval, renum] at HK ⊢
  have B1 := Lib.hid (alloc_below w (.cells #[.int .i64 i1, .int .i64 i2, .int .i64 i3, .int .i64 i4, .int .i64 i5, .int .i64 i6, .int .i64 i7, .slice p n c] 32))
  have L1 := Lib.hid (HL.out.alloc (.cells #[.int .i64 i1, .int .i64 i2, .int .i64 i3, .int .i64 i4, .int .i64 i5, .int .i64 i6, .int .i64 i7, .slice p n c] 32))
  have X1 := Lib.hid (Lies.new w 32 #[.int .i64 i1, .int .i64 i2, .int .i64 i3, .int .i64 i4, .int .i64 i5, .int .i64 i6, .int .i64 i7, .slice p n c])
  obtain ⟨w1, hw1⟩ : ∃ w1, w.alloc (.cells #[.int .i64 i1, .int .i64 i2, .int .i64 i3, .int .i64 i4, .int .i64 i5, .int .i64 i6, .int .i64 i7, .slice p n c] 32) = w1 := ⟨_, rfl⟩
  rw [hw1] at B1 L1 X1
  have hne : w.heap.size ≠ h := by have := HH.out; omega
  have L2 : Hid (Lies (w1.setCell ⟨h, 1, none⟩ (.int .i64 (given + 1))) h 60 #[.map mo, .int .i64 (given + 1)]) := Lib.hid (by simpa using L1.out.set_ 1 (.int .i64 (given + 1)))
  have X2 : Hid (Lies (w1.setCell ⟨h, 1, none⟩ (.int .i64 (given + 1))) w.heap.size 32 #[.int .i64 i1, .int .i64 i2, .int .i64 i3, .int .i64 i4, .int .i64 i5, .int .i64 i6, .int .i64 i7, .slice p n c]) := Lib.hid (X1.out.like (Below.heap_setCell w1 ⟨h, 1, none⟩ _ _ hne))
  have T2 := Lib.hid ((Turn.of_below (S := fun k => k = h) B1.out).setCell (p := ⟨h, 1, none⟩) (.inl rfl) (.int .i64 (given + 1)))
  have l1 : w1.cell? ⟨h, 1, none⟩ = some (.int .i64 given) := L1.out.cell 1
  have f1 : w1.frozen? ⟨h, 1, none⟩ = false := L1.out.frozen 1
  go_enter Try.func43, Try.ntmps43
  go_upto_region 2 with fail
  clear l1 f1
  generalize w1.setCell ⟨h, 1, none⟩ (.int .i64 (given + 1)) = w2 at *
  have X3 : Hid (Lies (w2.setCell ⟨w.heap.size, 0, none⟩ (.int .i64 (given + 1))) w.heap.size 32 #[.int .i64 (given + 1), .int .i64 i2, .int .i64 i3, .int .i64 i4, .int .i64 i5, .int .i64 i6, .int .i64 i7, .slice p n c]) := Lib.hid (by simpa using X2.out.set_ 0 (.int .i64 (given + 1)))
  have L3 : Hid (Lies (w2.setCell ⟨w.heap.size, 0, none⟩ (.int .i64 (given + 1))) h 60 #[.map mo, .int .i64 (given + 1)]) := Lib.hid (L2.out.like (Below.heap_setCell w2 ⟨w.heap.size, 0, none⟩ _ _ (fun e => hne e.symm)))
  have T3 := Lib.hid (T2.out.setCell (p := ⟨w.heap.size, 0, none⟩) (.inr (Nat.le_refl _)) (.int .i64 (given + 1)))
  have l1 : w2.cell? ⟨h, 1, none⟩ = some (.int .i64 (given + 1)) := L2.out.cell 1
  have f0 : w2.frozen? ⟨w.heap.size, 0, none⟩ = false := X2.out.frozen 0
  have x0 : w2.cell? ⟨w.heap.size, 0, none⟩ = some (.int .i64 i1) := X2.out.cell 0
  go_upto_region 3 with fail
  clear l1 f0 x0 L2 X2 T2 L1 X1 B1 hw1
  generalize w2.setCell ⟨w.heap.size, 0, none⟩ (.int .i64 (given + 1)) = w3 at *
  have x0 : w3.cell? ⟨w.heap.size, 0, none⟩ = some (.int .i64 (given + 1)) := X3.out.cell 0
  have x1 : w3.cell? ⟨w.heap.size, 1, none⟩ = some (.int .i64 i2) := X3.out.cell 1
  have x2 : w3.cell? ⟨w.heap.size, 2, none⟩ = some (.int .i64 i3) := X3.out.cell 2
  have x3 : w3.cell? ⟨w.heap.size, 3, none⟩ = some (.int .i64 i4) := X3.out.cell 3
  have x4 : w3.cell? ⟨w.heap.size, 4, none⟩ = some (.int .i64 i5) := X3.out.cell 4
  have x5 : w3.cell? ⟨w.heap.size, 5, none⟩ = some (.int .i64 i6) := X3.out.cell 5
  have x6 : w3.cell? ⟨w.heap.size, 6, none⟩ = some (.int .i64 i7) := X3.out.cell 6
  have x7 : w3.cell? ⟨w.heap.size, 7, none⟩ = some (.slice p n c) := X3.out.cell 7
  go_wp2_with fail
  refine (HK.out w3 (HP.out.regiven L3.out T3.out) (HY.out.turn T3.out (fun k hk e => (HA.out k hk).2.1 e)) (Nat.le_trans HBB.out T3.out.size)).mono ?_
  rintro e w4 ⟨rfl, q, hq, hP, hT⟩
  have X4 := Lib.hid (X3.out.turn hT (fun hh => hh.elim hne HM.out))
  have HF := Lib.hid (show ∃ q, (mo = some q ∨ w.heap.size ≤ q) ∧ PL w4 B h (some q) (given + 1) (L ++ [⟨⟨given + 1, i2, i3, i4, i5, i6, i7, S⟩, p, n, c⟩]) ∧ Turn (fun k => k = h ∨ mo = some k) w w4 from
    ⟨q, hq.imp id (fun h => Nat.le_trans T3.out.size h), hP, (T3.out.mono (fun _ _ hi => .inl hi)).trans hT (fun i hi => .inl hi)⟩)
  clear x0 x1 x2 x3 x4 x5 x6 x7 hq hP hT
  have x0 : w4.cell? ⟨w.heap.size, 0, none⟩ = some (.int .i64 (given + 1)) := X4.out.cell 0
  go_wp2
  go_ret
  exact ⟨rfl, HF.out⟩
end Lo
end Go.Proofs.Ytkfmkchonlajpaa

namespace Go.Proofs.Ytkfmkchonlajpaa
open Go.RowKit Go.Maps

namespace Lo
/-- What an act leaves, over lots that are known. -/
def LeftL (w : World) (B h : Nat) (mo : Option Nat) (L : List Lv) (s' : Stk) (w' : World) : Prop := ∃ mo' L', lts L' = s'.1 ∧ PL w' B h mo' s'.2 L' ∧ Turn (fun k => k = h ∨ mo = some k) w w' ∧ (∀ k, mo' = some k → mo = some k ∨ w.heap.size ≤ k) ∧ ∀ k, Bks L' k → Bks L k ∨ w.heap.size ≤ k
theorem leftL_same {w w' : World} {B h : Nat} {mo : Option Nat} {given : Int} {L : List Lv} (hp : PL w B h mo given L) (hb : Below w.heap.size w w') : LeftL w B h mo L (lts L, given) w' :=
  ⟨mo, L, rfl, hp.keep hb, Turn.of_below hb, fun _ hk => .inl hk, fun _ hk => .inl hk⟩
theorem LeftL.left {w w' : World} {B h : Nat} {F : Nat → Prop} {mo : Option Nat} {L : List Lv} {s' : Stk} (hF : ∀ k, F k ↔ PF h mo L k) (hl : LeftL w B h mo L s' w') : Left PS w B h F s' w' := by
  obtain ⟨mo', L', e, hp, ht, hm, hk⟩ := hl
  exact left_of hF e hp ht hm hk
theorem lots_len {L : List Lv} {g : Int} (hG : Good (lts L, g)) : L.length ≤ 256 := by
  have := good_len hG
  simpa [lts] using this
/-- A lot is kept in its place. -/
theorem left_set {w w1 w2 : World} {B h : Nat} {mo : Option Nat} {q i : Nat} {given : Int} {L : List Lv} {y y' : Lv} {s' : Stk} (hb : Below w.heap.size w w1) (hy : L[i]? = some y) (hk : ∀ k, Bk y' k → Bk y k ∨ w.heap.size ≤ k) (hs : s' = ((lts L).set i y'.x, given))
    (hq : mo = some q ∨ w1.heap.size ≤ q) (hp : PL w2 B h (some q) given (L.set i y')) (ht : Turn (fun k => k = h ∨ mo = some k) w1 w2) : LeftL w B h mo L s' w2 := by
  subst hs
  refine ⟨some q, _, lts_set, hp, (Turn.of_below hb).trans ht (fun i hi => .inl hi), fun k e => ?_, fun k hk' => ?_⟩
  · rw [← Option.some.inj e]
    exact hq.imp id (fun h => Nat.le_trans hb.size h)
  · obtain ⟨z, hz, hk'⟩ := hk'
    rcases List.mem_or_eq_of_mem_set hz with hz | rfl
    · exact .inl ⟨z, hz, hk'⟩
    · exact (hk k hk').imp (fun h => ⟨y, List.mem_of_getElem? hy, h⟩) id
theorem plot_no {B h : Nat} {mo : Option Nat} {given : Int} {L : List Lv} {id : Int} {w : World} (hp : PL w B h mo given L) (hm : I64 id) (ha : at_ id (lts L) = none) :
    Calls Try.prog 44 #[.pointer (some ⟨h, 0, none⟩), .int .i64 id] w fun e w' => e = .returned (.tuple #[rval lr0, .int .i64 5]) ∧ Below w.heap.size w w' := by
  have := plot_any B h mo given (L.map raw) id w hp.blk hp.tab (Ms.in64_of hm.1 hm.2)
  rw [find_at, ha] at this
  exact this
theorem plot_yes {B h : Nat} {mo : Option Nat} {given : Int} {L : List Lv} {id : Int} {w : World} {i : Nat} {y : Lv} (hp : PL w B h mo given L) (hm : I64 id) (ha : at_ id (lts L) = some i) (hy : L[i]? = some y) :
    Calls Try.prog 44 #[.pointer (some ⟨h, 0, none⟩), .int .i64 id] w fun e w' => e = .returned (.tuple #[lval y, .int .i64 0]) ∧ Below w.heap.size w w' := by
  have := plot_any B h mo given (L.map raw) id w hp.blk hp.tab (Ms.in64_of hm.1 hm.2)
  rw [find_at, ha, Option.bind_some, hy] at this
  exact this
/-- What is known of a lot that is there. -/
theorem lot_here {B h : Nat} {mo : Option Nat} {given : Int} {L : List Lv} {w : World} {i : Nat} {y : Lv} (hp : PL w B h mo given L) (hG : Good (lts L, given)) (hy : L[i]? = some y) : St w y ∧ y.n ≤ 1000000 ∧ (∀ k, Bk y k → B ≤ k ∧ k ≠ h ∧ mo ≠ some k) ∧ Ms.In64 y.x.id ∧ 1 ≤ y.x.units ∧ y.x.units ≤ 268435456 := by
  have hm := List.mem_of_getElem? hy
  have hs := hp.stays y hm
  have hx : y.x ∈ lts L := List.mem_map.2 ⟨y, hm, rfl⟩
  have hl := hG.long y.x hx
  have hid := hG.low y.x hx
  have hgv := hG.given
  have hu := good_units hG hx
  simp only at hid hgv
  rw [hs.len] at hl
  exact ⟨hs, by omega, fun k hk => hp.apart k ⟨y, hm, hk⟩, Ms.in64_of (by omega) (by omega), hu⟩
/-- Another lot in its place, laid ahead. -/
theorem pkeep_at {B h : Nat} {mo : Option Nat} {given : Int} {L : List Lv} {w w1 : World} {i : Nat} {y y' : Lv} {s' : Stk} (hp : PL w B h mo given L) (hG : Good (lts L, given)) (hy : L[i]? = some y) (hb : Below w.heap.size w w1) (he : y'.x.id = y.x.id) (hs : St w1 y') (hk : ∀ k, Bk y' k → Bk y k ∨ w.heap.size ≤ k) (hs' : s' = ((lts L).set i y'.x, given)) :
    Calls Try.prog 24 #[.pointer (some ⟨h, 0, none⟩), lval y'] w1 fun e w2 => e = .returned (.tuple #[]) ∧ LeftL w B h mo L s' w2 := by
  obtain ⟨h1, h2, h3, h4, h5, h6⟩ := lot_here hp hG hy
  have hL := lots_len hG
  have hlt := hp.blk.lt
  have hbase := hp.base
  have hm : Ms.In64 y'.x.id := by rw [he]; exact h4
  have hsz := hb.size
  refine (pkeep_any B h mo given L (L.set i y') y' w1 (hp.keep hb) (nx_set (good_aptR hG) hy he.symm) hs hm (by omega) (fun k hk' => ?_) (by omega)).mono ?_
  · rcases hk k hk' with h | h
    · exact h3 k h
    · exact ⟨by omega, by omega, fun e => by have := (Ms.tab_lt hp.tab e).2; omega⟩
  · rintro e w2 ⟨rfl, q, hq, hP, hT⟩
    exact ⟨rfl, left_set hb hy hk hs' hq hP hT⟩
end Lo
end Go.Proofs.Ytkfmkchonlajpaa
