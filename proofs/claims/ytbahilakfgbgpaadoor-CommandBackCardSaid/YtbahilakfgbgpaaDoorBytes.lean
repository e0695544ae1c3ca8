/- Slices that read as lists of bytes; append onto a slice that the call owns; small words for all walks. No condition but those written. -/
import Derived.Test.YtbahilakfgbgpaaDoorChecked
import Derived.WalkKit
import Derived.WalkLawsBesides
import Derived.LoopTactic
import Derived.KernelRfl
import Derived.Lib.Hide
import Derived.BigQuiet
import Derived.Deep.QuietTactic
import Derived.Below
import Derived.Maps.AppendAt
import Derived.Laws.OwnMore
import Derived.Lib.AppendZeros
import Derived.OwnWalk
import Derived.Deep.Onto
import Derived.Deep.AppendLies
import Derived.DataShut
namespace Go.Proofs.YtbahilakfgbgpaaDoor
open Go.RowKit

theorem ret_int {k : IntKind} {a b : Int} (h : a = b) : Ending.returned (.int k a) = .returned (.int k b) := by rw [h]
theorem ret_bool {a b : Bool} (h : a = b) : Ending.returned (.bool a) = .returned (.bool b) := by rw [h]
theorem eq_nat (a b : Nat) : ((a : Int) == (b : Int)) = decide (a = b) := by rw [Bool.eq_iff_iff, beq_iff_eq, decide_eq_true_iff]; omega
theorem still {P : Program} {f : FuncId} {args : Array Value} {w : World} {n : Nat} {v : Value}
    (h : Calls P f args (w.drewN n) fun e w' => e = .returned v ∧ w.drewN n = w') : Calls P f args (w.drewN n) fun e w'' => e = .returned v ∧ ∃ m, w'' = w.drewN m :=
  h.mono fun _ _ ⟨he, hm⟩ => ⟨he, n, hm.symm⟩
theorem still2 {P : Program} {f : FuncId} {args : Array Value} {w : World} {n : Nat} {v : Value}
    (h : Calls P f args (w.drewN n) fun e w' => e = .returned v ∧ ∃ m, w' = (w.drewN n).drewN m) : Calls P f args (w.drewN n) fun e w'' => e = .returned v ∧ ∃ m, w'' = w.drewN m :=
  h.mono fun _ _ ⟨he, m, hm⟩ => ⟨he, n + m, by rw [hm, World.drewN_drewN]⟩
theorem then_ {a b c : World} (h : Below a.heap.size a b) (k : Below b.heap.size b c) : Below a.heap.size a c := h.trans (k.mono h.size)
theorem below_drewN {B : Nat} {a w : World} (h : Below B a w) (n : Nat) : Below B a (w.drewN n) := ⟨h.os, h.tape, h.output, h.size, h.block⟩
theorem size_alloc (w : World) (o : Obj) : w.heap.size ≤ (w.alloc o).heap.size := by simp
/-- A slice that reads as a list of bytes, nil let in. -/
def At (w : World) (p : Option Addr) (n : Nat) (l : List Nat) : Prop :=
  l.length = n ∧ (∀ x ∈ l, x < 256) ∧ (0 < n → ∃ b o, p = some ⟨b, o, none⟩ ∧ ∀ j, j < n → w.cell? ⟨b, o + j, none⟩ = some (.int .u8 ((l.getD j 0 : Nat) : Int)))
theorem getD_lt {l : List Nat} (h : ∀ x ∈ l, x < 256) (k : Nat) : l.getD k 0 < 256 := by
  by_cases hk : k < l.length
  · rw [List.getD_eq_getElem?_getD, List.getElem?_eq_getElem hk]
    exact h _ (List.getElem_mem hk)
  · rw [List.getD_eq_getElem?_getD, List.getElem?_eq_none (by omega)]
    decide
theorem At.take {w : World} {p : Option Addr} {n : Nat} {l : List Nat} (h : At w p n l) (m : Nat) (hm : m ≤ n) : At w p m (l.take m) := by
  obtain ⟨hl, hb, hc⟩ := h
  refine ⟨by rw [List.length_take]; omega, fun x hx => hb x (List.mem_of_mem_take hx), fun h0 => ?_⟩
  obtain ⟨b, o, hp, hj⟩ := hc (by omega)
  refine ⟨b, o, hp, fun j hjm => ?_⟩
  rw [hj j (by omega), List.getD_eq_getElem?_getD, List.getD_eq_getElem?_getD, List.getElem?_take_of_lt hjm]
theorem At.keep {w w' : World} {p : Option Addr} {n : Nat} {l : List Nat} (h : At w p n l) (hb : Below w.heap.size w w') : At w' p n l := by
  obtain ⟨hl, hx, hc⟩ := h
  refine ⟨hl, hx, fun h0 => ?_⟩
  obtain ⟨b, o, hp, hj⟩ := hc h0
  refine ⟨b, o, hp, fun j hjm => ?_⟩
  have hlt : b < w.heap.size := World.block_lt_of_cell? w _ (hj j hjm)
  exact (hb.cell (p := ⟨b, o + j, none⟩) hlt).trans (hj j hjm)
theorem At.drewN {w : World} {p : Option Addr} {n : Nat} {l : List Nat} (h : At w p n l) (m : Nat) : At (w.drewN m) p n l := h
theorem at_nil (w : World) : At w none 0 [] := ⟨rfl, by simp, fun h => absurd h (by decide)⟩
/-- The bytes of a list, as cells. -/
def bys (l : List Nat) : List Value := l.map fun x => Value.int .u8 ((x : Nat) : Int)
theorem bys_length (l : List Nat) : (bys l).length = l.length := by simp [bys]
theorem bys_append (l m : List Nat) : bys (l ++ m) = bys l ++ bys m := by simp [bys]
theorem bys_at {l : List Nat} {j : Nat} (h : j < l.length) : (bys l)[j]? = some (.int .u8 ((l.getD j 0 : Nat) : Int)) := by
  simp [bys, List.getElem?_map, List.getD_eq_getElem?_getD, List.getElem?_eq_getElem h]
theorem bys_one (l : List Nat) : ∀ u ∈ bys l, u.oneCell' = true := by
  intro u hu
  obtain ⟨x, _, rfl⟩ := List.mem_map.1 hu
  rfl
theorem add_none (b o j : Nat) : (⟨b, o, none⟩ : Addr).add j = ⟨b, o + j, none⟩ := by
  unfold Addr.add
  split
  · rename_i h
    subst h
    rfl
  · rfl
theorem info5 : (Tryd.prog.info? 5).map (fun i => (i.zero, i.size, i.bytes)) = some (some (.int .u8 0), 1, 1) := by kernel_rfl
/-- A slice that the call owns reads as a list of bytes. -/
theorem at_own {w : World} {B : Nat} {v : Value} {n : Nat} {l : List Nat} (hl : l.length = n) (hx : ∀ x ∈ l, x < 256) (h : w.ownsRow B 5 1 v n (bys l)) :
    ∃ q c, v = .slice q n c ∧ n ≤ c ∧ At w q n l := by
  have h' := h
  rcases h.2 with ⟨rfl, rfl⟩ | ⟨g, cap, cur, rfl, _, _, hnc, _⟩
  · exact ⟨none, 0, rfl, Nat.le_refl _, hl, hx, fun h0 => absurd h0 (by omega)⟩
  · refine ⟨_, cap, rfl, hnc, hl, hx, fun _ => ⟨g, 0, rfl, fun j hj => ?_⟩⟩
    rw [Nat.zero_add, h'.cellAt j (by omega), bys_at (by omega)]
/-- append, of bytes that read as a list, onto a slice that the call owns. -/
theorem app_run {w : World} {B : Nat} {v : Value} {n : Nat} {xs : List Value} (hown : w.ownsRow B 5 1 v n xs) {p : Option Addr} {m c : Nat} {l : List Nat} (h : At w p m l)
    (hbig : n + m ≤ 70000000000000) (hb : B ≤ w.heap.size) (ty : TypeId) :
    ∃ v' w', (Builtin.append_ #[23, 23] ty #[v, .slice p m c]).run Tryd.prog w = .ok v' w' ∧ w'.ownsRow B 5 1 v' (n + m) (xs ++ bys l) ∧ w.grownBy w' v.ownBlock ∧ (v'.ownBlock = v.ownBlock ∨ v'.ownBlock = some w.heap.size) := by
  obtain ⟨i0, hi, hz0, hz1, hz2⟩ := info_parts info5
  obtain ⟨hl, hx, hc⟩ := h
  cases p with
  | none =>
    have hm : m = 0 := by
      rcases Nat.eq_zero_or_pos m with h0 | h0
      · exact h0
      · obtain ⟨_, _, e, _⟩ := hc h0
        cases e
    subst hm
    obtain rfl : l = [] := List.eq_nil_of_length_eq_zero hl
    refine ⟨v, w, ?_, by simpa [bys] using hown, ⟨rfl, rfl, rfl, Nat.le_refl _, fun _ _ _ => rfl⟩, .inl rfl⟩
    rcases hown.2 with ⟨rfl, rfl⟩ | ⟨g, cap, cur, rfl, _, _, hnc, _⟩
    · simp [Builtin.append_, run_underlying Tryd.underlying23, sizeOf, typeInfo, hi, Builtin.lenOf, Builtin.firstCells]
    · simp [Builtin.append_, run_underlying Tryd.underlying23, sizeOf, typeInfo, hi, Builtin.lenOf, Builtin.firstCells, hnc, storeCells]
  | some a =>
    have hcells : ∀ j u, (bys l)[j]? = some u → w.cell? (a.add j) = some u := by
      intro j u hu
      have hjl : j < (bys l).length := (List.getElem?_eq_some_iff.1 hu).1
      rw [bys_length] at hjl
      obtain ⟨b, o, e, hj⟩ := hc (by omega)
      cases e
      rw [add_none, hj j (by omega)]
      rw [bys_at hjl] at hu
      exact hu
    obtain ⟨v', w', hr, h2, h3, _, h5⟩ := run_append_own_at (P := Tryd.prog) w B 23 ty 5 i0 _ 1 1 Tryd.underlying23 hi hz0 hz1 hz2 rfl (by decide) v n xs hown a m c (bys l) (by rw [bys_length]; omega) hcells (bys_one l) (by unfold maxLen; omega) (by omega) hb
    exact ⟨v', w', hr, h2, h3, h5⟩
/-- At the operation. -/
theorem wpList_app {w : World} {ops : Array Oper} {rest : List Oper} {o : Oper} {a : Act} {Q : Exit → Act → World → Prop} (hgd : o.guard = none) (s x : Operand)
    (ho : o.op = .call { callee := .builtin .append, args := #[s, x], argTypes := #[23, 23] })
    (B : Nat) (v : Value) (n : Nat) (xs : List Value) (hs : a.eval s = v) (hown : w.ownsRow B 5 1 v n xs) (p : Option Addr) (m c : Nat) (l : List Nat) (hx : a.eval x = .slice p m c) (h : At w p m l)
    (hbig : n + m ≤ 70000000000000) (hb : B ≤ w.heap.size)
    (hK : ∀ v' w', w'.ownsRow B 5 1 v' (n + m) (xs ++ bys l) → w.grownBy w' v.ownBlock → (v'.ownBlock = v.ownBlock ∨ v'.ownBlock = some w.heap.size) → wpList Tryd.prog ops Q rest (a.put o.dst v') w') :
    wpList Tryd.prog ops Q (o :: rest) a w := by
  obtain ⟨v', w', hr, h2, h3, h4⟩ := app_run hown h (c := c) hbig hb o.type
  exact Lib.wpList_append_run w hgd s x 23 23 ho v (.slice p m c) hs hx v' w' hr (hK v' w' h2 h3 h4)
theorem at_pair (w : World) (u v : Nat) (hu : u < 256) (hv : v < 256) : At (w.alloc (.cells #[.int .u8 (u : Int), .int .u8 (v : Int)] 5)) (some ⟨w.heap.size, 0, none⟩) 2 [u, v] := by
  refine ⟨rfl, ?_, fun _ => ⟨w.heap.size, 0, rfl, fun j hj => ?_⟩⟩
  · intro x hx
    simp only [List.mem_cons, List.not_mem_nil, or_false] at hx
    rcases hx with rfl | rfl
    · exact hu
    · exact hv
  · rw [Nat.zero_add, cell_of_row _ w.heap.size j _ 5 (0, 0) (heap_alloc_new w _)]
    match j, hj with
    | 0, _ => rfl
    | 1, _ => rfl
theorem own_cell {w : World} {B g n cap : Nat} {t : List Nat} (h : w.ownsRow B 5 1 (.slice (some ⟨g, 0, none⟩) n cap) n (bys t)) (hl : t.length = n) {i : Nat} (hi : i < n) :
    w.cell? ⟨g, i, none⟩ = some (.int .u8 ((t.getD i 0 : Nat) : Int)) := by
  rw [h.cellAt i (by omega), bys_at (by omega)]
theorem own_store {w : World} {B g n cap : Nat} {t : List Nat} (h : w.ownsRow B 5 1 (.slice (some ⟨g, 0, none⟩) n cap) n (bys t)) (i u : Nat) :
    (w.setCell ⟨g, i, none⟩ (.int .u8 (u : Int))).ownsRow B 5 1 (.slice (some ⟨g, 0, none⟩) n cap) n (bys (t.set i u)) := by
  have e : bys (t.set i u) = (bys t).set i (.int .u8 (u : Int)) := by simp [bys, List.map_set]
  rw [e]
  exact (h.stored i (.int .u8 (u : Int))).1
theorem made_none (w : World) : (w.alloc (.cells #[] 5)).ownsRow w.heap.size 5 1 (.slice (some ⟨w.heap.size, 0, none⟩) 0 0) 0 [] := World.ownsRow_made w #[] 0 (Nat.le_refl _) (Nat.zero_le _) rfl
theorem next_below {w wr w2 : World} {v : Value} {n : Nat} {xs : List Value} (hown : wr.ownsRow w.heap.size 5 1 v n xs) (hg : wr.grownBy w2 v.ownBlock) (hb : Below w.heap.size w wr) : Below w.heap.size w w2 :=
  hb.grown hg hb.size (fun k hk => (hown.lt k hk).1)
theorem next_cell {w wr w2 : World} {v : Value} {n : Nat} {xs : List Value} {B o : Nat} {x : Value} (hB : B < w.heap.size) (hown : wr.ownsRow w.heap.size 5 1 v n xs) (hg : wr.grownBy w2 v.ownBlock)
    (h : wr.cell? ⟨B, o, none⟩ = some x) : w2.cell? ⟨B, o, none⟩ = some x :=
  hg.cell h (fun e => by have := (hown.lt B e.symm).1; omega)
/-- What the walk is told of a list of whole numbers that came in: it is nil; or it leads to a row of 'cap' cells, the numbers 'zs'. -/
def IsRow (k : IntKind) (w : World) (a : Option Addr) (len cap : Nat) (zs : List Int) : Prop :=
  (a = none ∧ len = 0 ∧ cap = 0 ∧ zs = []) ∨
  ∃ x, a = some x ∧ len ≤ cap ∧ cap ≤ maxLen ∧ zs.length = cap ∧ (∀ i, i < zs.length → w.cell? (x.add i) = some (.int k (zs.getD i 0))) ∧ ∀ n ∈ zs, (Lit.int k n).wf = true
theorem nat_byte {n : Int} (h : (Lit.int .u8 n).wf = true) : 0 ≤ n ∧ n < 256 := by
  have h1 := (Lit.wf_int_iff .u8 n).1 h
  have e1 : IntKind.u8.min = 0 := by decide
  have e2 : IntKind.u8.max = 255 := by decide
  rw [e1, e2] at h1
  omega
/-- A row of bytes that came in reads as a list of bytes. -/
theorem at_row {w : World} {a : Option Addr} {len cap : Nat} {zs : List Int} (h : IsRow .u8 w a len cap zs) : len ≤ cap ∧ len ≤ 9223372036854775807 ∧ ∃ l, At w a len l := by
  rcases h with ⟨rfl, rfl, rfl, rfl⟩ | ⟨x, rfl, hl, hm, hz, hcell, hwf⟩
  · exact ⟨Nat.le_refl _, Nat.zero_le _, [], at_nil w⟩
  · unfold maxLen at hm
    refine ⟨hl, by omega, (zs.map Int.toNat).take len, ?_, ?_, fun h0 => ?_⟩
    · rw [List.length_take, List.length_map]; omega
    · intro y hy
      obtain ⟨z, hz, rfl⟩ := List.mem_map.1 (List.mem_of_mem_take hy)
      have := nat_byte (hwf z hz)
      omega
    · obtain ⟨bk, off, spot⟩ := x
      have hc0 := hcell 0 (by omega)
      have hspot : spot = none := by simpa [Addr.add] using World.cell?_spot hc0
      subst hspot
      refine ⟨bk, off, rfl, fun j hj => ?_⟩
      have hj' : j < zs.length := by omega
      have h := hcell j hj'
      rw [add_none] at h
      rw [h, List.getD_eq_getElem?_getD, List.getD_eq_getElem?_getD, List.getElem?_take_of_lt hj, List.getElem?_map, List.getElem?_eq_getElem hj']
      have hb := nat_byte (hwf _ (List.getElem_mem hj'))
      simp only [Option.getD_some, Option.map_some]
      rw [Int.toNat_of_nonneg hb.1]
theorem nat_word {n : Int} (h : (Lit.int .u16 n).wf = true) : ∃ m : Nat, n = (m : Int) ∧ m < 65536 := by
  have h1 := (Lit.wf_int_iff .u16 n).1 h
  have e1 : IntKind.u16.min = 0 := by decide
  have e2 : IntKind.u16.max = 65535 := by decide
  rw [e1, e2] at h1
  exact ⟨n.toNat, by omega, by omega⟩
end Go.Proofs.YtbahilakfgbgpaaDoor
