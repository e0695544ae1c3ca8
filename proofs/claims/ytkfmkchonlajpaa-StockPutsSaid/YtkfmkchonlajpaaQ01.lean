/- Slices that read as lists of bytes; append onto a slice that the call owns; small words for all walks. No condition but those written. Numbers as bytes, in plain words: what is written, what is read; no condition but those written. Blocks of memory: what has turned, what lies where, bytes that are kept. No condition but those written. Slices of structs, structs and arrays that came in: its cells, and how each field reads. No condition but those written. Arguments that came in: bytes, whole numbers, how each reads. No condition but those written. Pairs of numbers that came in; numbers' bounds. No condition but those written. Stays in plain words: where something was. No condition but those written. Stays in plain words: what a step makes of them; how many minutes they have. No condition but those written. -/
import Derived.Test.YtkfmkchonlajpaaChecked
import Derived.WalkKit
import Derived.WalkLawsBesides
import Derived.LoopTactic
import Derived.KernelRfl
import Derived.Lib.Hide
import Derived.BigQuiet
import Derived.Deep.QuietTactic
import Derived.Below
import Derived.Maps.AppendAt
import Derived.Laws.OwnMore
import Derived.Lib.AppendZeros
import Derived.OwnWalk
import Derived.Deep.Onto
import Derived.Deep.AppendLies
import Derived.DataShut
import Derived.Deep.OwnRows
import Derived.IntWalk
import Derived.Laws.BitsAllLaws
import Derived.Laws.BitsLemmas
import Derived.Deep.Slices
import Derived.ChangeArms
import Derived.ChangeSlices
import Derived.ChangeSame
import Derived.DataReads
import Derived.OpenShut
namespace Go.Proofs.Ytkfmkchonlajpaa
open Go.RowKit

theorem ret_int {k : IntKind} {a b : Int} (h : a = b) : Ending.returned (.int k a) = .returned (.int k b) := by rw [h]
theorem ret_bool {a b : Bool} (h : a = b) : Ending.returned (.bool a) = .returned (.bool b) := by rw [h]
theorem eq_nat (a b : Nat) : ((a : Int) == (b : Int)) = decide (a = b) := by rw [Bool.eq_iff_iff, beq_iff_eq, decide_eq_true_iff]; omega
theorem still {P : Program} {f : FuncId} {args : Array Value} {w : World} {n : Nat} {v : Value}
    (h : Calls P f args (w.drewN n) fun e w' => e = .returned v ∧ w.drewN n = w') : Calls P f args (w.drewN n) fun e w'' => e = .returned v ∧ ∃ m, w'' = w.drewN m :=
  h.mono fun _ _ ⟨he, hm⟩ => ⟨he, n, hm.symm⟩
theorem still2 {P : Program} {f : FuncId} {args : Array Value} {w : World} {n : Nat} {v : Value}
    (h : Calls P f args (w.drewN n) fun e w' => e = .returned v ∧ ∃ m, w' = (w.drewN n).drewN m) : Calls P f args (w.drewN n) fun e w'' => e = .returned v ∧ ∃ m, w'' = w.drewN m :=
  h.mono fun _ _ ⟨he, m, hm⟩ => ⟨he, n + m, by rw [hm, World.drewN_drewN]⟩
theorem then_ {a b c : World} (h : Below a.heap.size a b) (k : Below b.heap.size b c) : Below a.heap.size a c := h.trans (k.mono h.size)
theorem below_drewN {B : Nat} {a w : World} (h : Below B a w) (n : Nat) : Below B a (w.drewN n) := ⟨h.os, h.tape, h.output, h.size, h.block⟩
theorem size_alloc (w : World) (o : Obj) : w.heap.size ≤ (w.alloc o).heap.size := by simp
/-- A slice that reads as a list of bytes, nil let in. -/
def At (w : World) (p : Option Addr) (n : Nat) (l : List Nat) : Prop :=
  l.length = n ∧ (∀ x ∈ l, x < 256) ∧ (0 < n → ∃ b o, p = some ⟨b, o, none⟩ ∧ ∀ j, j < n → w.cell? ⟨b, o + j, none⟩ = some (.int .u8 ((l.getD j 0 : Nat) : Int)))
theorem getD_lt {l : List Nat} (h : ∀ x ∈ l, x < 256) (k : Nat) : l.getD k 0 < 256 := by
  by_cases hk : k < l.length
  · rw [List.getD_eq_getElem?_getD, List.getElem?_eq_getElem hk]
    exact h _ (List.getElem_mem hk)
  · rw [List.getD_eq_getElem?_getD, List.getElem?_eq_none (by omega)]
    decide
theorem At.take {w : World} {p : Option Addr} {n : Nat} {l : List Nat} (h : At w p n l) (m : Nat) (hm : m ≤ n) : At w p m (l.take m) := by
  obtain ⟨hl, hb, hc⟩ := h
  refine ⟨by rw [List.length_take]; omega, fun x hx => hb x (List.mem_of_mem_take hx), fun h0 => ?_⟩
  obtain ⟨b, o, hp, hj⟩ := hc (by omega)
  refine ⟨b, o, hp, fun j hjm => ?_⟩
  rw [hj j (by omega), List.getD_eq_getElem?_getD, List.getD_eq_getElem?_getD, List.getElem?_take_of_lt hjm]
theorem At.keep {w w' : World} {p : Option Addr} {n : Nat} {l : List Nat} (h : At w p n l) (hb : Below w.heap.size w w') : At w' p n l := by
  obtain ⟨hl, hx, hc⟩ := h
  refine ⟨hl, hx, fun h0 => ?_⟩
  obtain ⟨b, o, hp, hj⟩ := hc h0
  refine ⟨b, o, hp, fun j hjm => ?_⟩
  have hlt : b < w.heap.size := World.block_lt_of_cell? w _ (hj j hjm)
  exact (hb.cell (p := ⟨b, o + j, none⟩) hlt).trans (hj j hjm)
theorem At.drewN {w : World} {p : Option Addr} {n : Nat} {l : List Nat} (h : At w p n l) (m : Nat) : At (w.drewN m) p n l := h
theorem at_nil (w : World) : At w none 0 [] := ⟨rfl, by simp, fun h => absurd h (by decide)⟩
/-- The bytes of a list, as cells. -/
def bys (l : List Nat) : List Value := l.map fun x => Value.int .u8 ((x : Nat) : Int)
theorem bys_length (l : List Nat) : (bys l).length = l.length := by simp [bys]
theorem bys_append (l m : List Nat) : bys (l ++ m) = bys l ++ bys m := by simp [bys]
theorem bys_at {l : List Nat} {j : Nat} (h : j < l.length) : (bys l)[j]? = some (.int .u8 ((l.getD j 0 : Nat) : Int)) := by
  simp [bys, List.getElem?_map, List.getD_eq_getElem?_getD, List.getElem?_eq_getElem h]
theorem bys_one (l : List Nat) : ∀ u ∈ bys l, u.oneCell' = true := by
  intro u hu
  obtain ⟨x, _, rfl⟩ := List.mem_map.1 hu
  rfl
theorem add_none (b o j : Nat) : (⟨b, o, none⟩ : Addr).add j = ⟨b, o + j, none⟩ := by
  unfold Addr.add
  split
  · rename_i h
    subst h
    rfl
  · rfl
theorem info5 : (Try.prog.info? 5).map (fun i => (i.zero, i.size, i.bytes)) = some (some (.int .u8 0), 1, 1) := by kernel_rfl
/-- A slice that the call owns reads as a list of bytes. -/
theorem at_own {w : World} {B : Nat} {v : Value} {n : Nat} {l : List Nat} (hl : l.length = n) (hx : ∀ x ∈ l, x < 256) (h : w.ownsRow B 5 1 v n (bys l)) :
    ∃ q c, v = .slice q n c ∧ n ≤ c ∧ At w q n l := by
  have h' := h
  rcases h.2 with ⟨rfl, rfl⟩ | ⟨g, cap, cur, rfl, _, _, hnc, _⟩
  · exact ⟨none, 0, rfl, Nat.le_refl _, hl, hx, fun h0 => absurd h0 (by omega)⟩
  · refine ⟨_, cap, rfl, hnc, hl, hx, fun _ => ⟨g, 0, rfl, fun j hj => ?_⟩⟩
    rw [Nat.zero_add, h'.cellAt j (by omega), bys_at (by omega)]
theorem at_pair (w : World) (u v : Nat) (hu : u < 256) (hv : v < 256) : At (w.alloc (.cells #[.int .u8 (u : Int), .int .u8 (v : Int)] 5)) (some ⟨w.heap.size, 0, none⟩) 2 [u, v] := by
  refine ⟨rfl, ?_, fun _ => ⟨w.heap.size, 0, rfl, fun j hj => ?_⟩⟩
  · intro x hx
    simp only [List.mem_cons, List.not_mem_nil, or_false] at hx
    rcases hx with rfl | rfl
    · exact hu
    · exact hv
  · rw [Nat.zero_add, cell_of_row _ w.heap.size j _ 5 (0, 0) (heap_alloc_new w _)]
    match j, hj with
    | 0, _ => rfl
    | 1, _ => rfl
theorem own_cell {w : World} {B g n cap : Nat} {t : List Nat} (h : w.ownsRow B 5 1 (.slice (some ⟨g, 0, none⟩) n cap) n (bys t)) (hl : t.length = n) {i : Nat} (hi : i < n) :
    w.cell? ⟨g, i, none⟩ = some (.int .u8 ((t.getD i 0 : Nat) : Int)) := by
  rw [h.cellAt i (by omega), bys_at (by omega)]
theorem own_store {w : World} {B g n cap : Nat} {t : List Nat} (h : w.ownsRow B 5 1 (.slice (some ⟨g, 0, none⟩) n cap) n (bys t)) (i u : Nat) :
    (w.setCell ⟨g, i, none⟩ (.int .u8 (u : Int))).ownsRow B 5 1 (.slice (some ⟨g, 0, none⟩) n cap) n (bys (t.set i u)) := by
  have e : bys (t.set i u) = (bys t).set i (.int .u8 (u : Int)) := by simp [bys, List.map_set]
  rw [e]
  exact (h.stored i (.int .u8 (u : Int))).1
theorem made_none (w : World) : (w.alloc (.cells #[] 5)).ownsRow w.heap.size 5 1 (.slice (some ⟨w.heap.size, 0, none⟩) 0 0) 0 [] := World.ownsRow_made w #[] 0 (Nat.le_refl _) (Nat.zero_le _) rfl
theorem next_below {w wr w2 : World} {v : Value} {n : Nat} {xs : List Value} (hown : wr.ownsRow w.heap.size 5 1 v n xs) (hg : wr.grownBy w2 v.ownBlock) (hb : Below w.heap.size w wr) : Below w.heap.size w w2 :=
  hb.grown hg hb.size (fun k hk => (hown.lt k hk).1)
theorem next_cell {w wr w2 : World} {v : Value} {n : Nat} {xs : List Value} {B o : Nat} {x : Value} (hB : B < w.heap.size) (hown : wr.ownsRow w.heap.size 5 1 v n xs) (hg : wr.grownBy w2 v.ownBlock)
    (h : wr.cell? ⟨B, o, none⟩ = some x) : w2.cell? ⟨B, o, none⟩ = some x :=
  hg.cell h (fun e => by have := (hown.lt B e.symm).1; omega)
/-- What the walk is told of a list of whole numbers that came in: it is nil; or it leads to a row of 'cap' cells, the numbers 'zs'. -/
def IsRow (k : IntKind) (w : World) (a : Option Addr) (len cap : Nat) (zs : List Int) : Prop :=
  (a = none ∧ len = 0 ∧ cap = 0 ∧ zs = []) ∨
  ∃ x, a = some x ∧ len ≤ cap ∧ cap ≤ maxLen ∧ zs.length = cap ∧ (∀ i, i < zs.length → w.cell? (x.add i) = some (.int k (zs.getD i 0))) ∧ ∀ n ∈ zs, (Lit.int k n).wf = true
theorem nat_byte {n : Int} (h : (Lit.int .u8 n).wf = true) : 0 ≤ n ∧ n < 256 := by
  have h1 := (Lit.wf_int_iff .u8 n).1 h
  have e1 : IntKind.u8.min = 0 := by decide
  have e2 : IntKind.u8.max = 255 := by decide
  rw [e1, e2] at h1
  omega
/-- A row of bytes that came in reads as a list of bytes. -/
theorem at_row {w : World} {a : Option Addr} {len cap : Nat} {zs : List Int} (h : IsRow .u8 w a len cap zs) : len ≤ cap ∧ len ≤ 9223372036854775807 ∧ ∃ l, At w a len l := by
  rcases h with ⟨rfl, rfl, rfl, rfl⟩ | ⟨x, rfl, hl, hm, hz, hcell, hwf⟩
  · exact ⟨Nat.le_refl _, Nat.zero_le _, [], at_nil w⟩
  · unfold maxLen at hm
    refine ⟨hl, by omega, (zs.map Int.toNat).take len, ?_, ?_, fun h0 => ?_⟩
    · rw [List.length_take, List.length_map]; omega
    · intro y hy
      obtain ⟨z, hz, rfl⟩ := List.mem_map.1 (List.mem_of_mem_take hy)
      have := nat_byte (hwf z hz)
      omega
    · obtain ⟨bk, off, spot⟩ := x
      have hc0 := hcell 0 (by omega)
      have hspot : spot = none := by simpa [Addr.add] using World.cell?_spot hc0
      subst hspot
      refine ⟨bk, off, rfl, fun j hj => ?_⟩
      have hj' : j < zs.length := by omega
      have h := hcell j hj'
      rw [add_none] at h
      rw [h, List.getD_eq_getElem?_getD, List.getD_eq_getElem?_getD, List.getElem?_take_of_lt hj, List.getElem?_map, List.getElem?_eq_getElem hj']
      have hb := nat_byte (hwf _ (List.getElem_mem hj'))
      simp only [Option.getD_some, Option.map_some]
      rw [Int.toNat_of_nonneg hb.1]
theorem nat_word {n : Int} (h : (Lit.int .u16 n).wf = true) : ∃ m : Nat, n = (m : Int) ∧ m < 65536 := by
  have h1 := (Lit.wf_int_iff .u16 n).1 h
  have e1 : IntKind.u16.min = 0 := by decide
  have e2 : IntKind.u16.max = 65535 := by decide
  rw [e1, e2] at h1
  exact ⟨n.toNat, by omega, by omega⟩
end Go.Proofs.Ytkfmkchonlajpaa

namespace Go.Proofs.Ytkfmkchonlajpaa.Oc

/-- The lowest k bytes of a number, the highest byte first. -/
def be : Nat → Nat → List Nat
  | 0, _ => []
  | k + 1, n => (n / 256 ^ k % 256) :: be k n
theorem be_zero (n : Nat) : be 0 n = [] := rfl
theorem be_succ (k n : Nat) : be (k + 1) n = (n / 256 ^ k % 256) :: be k n := rfl
theorem be_length (k n : Nat) : (be k n).length = k := by
  induction k with
  | zero => rfl
  | succ k ih => simp [be, ih]
theorem be_lt (k n : Nat) : ∀ x ∈ be k n, x < 256 := by
  induction k with
  | zero => simp [be]
  | succ k ih =>
    intro x hx
    rcases List.mem_cons.1 (by simpa [be] using hx) with rfl | h
    · exact Nat.mod_lt _ (by decide)
    · exact ih x h
/-- The number of bytes, behind a number that is there. -/
def valo : Nat → List Nat → Nat
  | u, [] => u
  | u, x :: l => valo (256 * u + x) l
def val (l : List Nat) : Nat := valo 0 l
theorem valo_nil (u : Nat) : valo u [] = u := rfl
theorem valo_cons (u x : Nat) (l : List Nat) : valo u (x :: l) = valo (256 * u + x) l := rfl
theorem valo_append (u : Nat) (l m : List Nat) : valo u (l ++ m) = valo (valo u l) m := by
  induction l generalizing u with
  | nil => rfl
  | cons x l ih => simp [valo, ih]
theorem val_snoc (l : List Nat) (x : Nat) : val (l ++ [x]) = 256 * val l + x := by
  unfold val
  rw [valo_append]
  rfl
theorem valo_be (k u n : Nat) : valo u (be k n) = 256 ^ k * u + n % 256 ^ k := by
  induction k generalizing u with
  | zero => simp [be, valo, Nat.mod_one]
  | succ k ih =>
    rw [be_succ, valo_cons, ih]
    have h1 : n % 256 ^ (k + 1) = n % 256 ^ k + 256 ^ k * (n / 256 ^ k % 256) := by
      rw [Nat.pow_succ, Nat.mod_mul]
    rw [h1, Nat.pow_succ, Nat.mul_add, ← Nat.mul_assoc]
    omega
theorem val_be {k n : Nat} (h : n < 256 ^ k) : val (be k n) = n := by
  unfold val
  rw [valo_be, Nat.mul_zero, Nat.zero_add, Nat.mod_eq_of_lt h]
theorem valo_lt (l : List Nat) (hl : ∀ x ∈ l, x < 256) (u : Nat) : valo u l < 256 ^ l.length * (u + 1) := by
  induction l generalizing u with
  | nil => simp [valo]
  | cons x l ih =>
    have hx := hl x (by simp)
    have h := ih (fun y hy => hl y (by simp [hy])) (256 * u + x)
    rw [valo_cons, List.length_cons, Nat.pow_succ, Nat.mul_assoc]
    exact Nat.lt_of_lt_of_le h (Nat.mul_le_mul_left _ (by omega))
theorem val_lt {l : List Nat} (hl : ∀ x ∈ l, x < 256) : val l < 256 ^ l.length := by
  have := valo_lt l hl 0
  simpa [val] using this
theorem pow_le {j k : Nat} (h : j ≤ k) : 256 ^ j ≤ 256 ^ k := Nat.pow_le_pow_right (by decide) h
theorem take_snoc {l : List Nat} {k : Nat} (h : k < l.length) : l.take (k + 1) = l.take k ++ [l.getD k 0] := by
  rw [List.take_succ_eq_append_getElem h, List.getD_eq_getElem?_getD, List.getElem?_eq_getElem h]
  rfl
theorem val_take {l : List Nat} {k : Nat} (h : k < l.length) : val (l.take (k + 1)) = 256 * val (l.take k) + l.getD k 0 := by
  rw [take_snoc h, val_snoc]
theorem mem_take {l : List Nat} (hl : ∀ x ∈ l, x < 256) (k : Nat) : ∀ x ∈ l.take k, x < 256 := fun x hx => hl x (List.mem_of_mem_take hx)
theorem mem_drop {l : List Nat} (hl : ∀ x ∈ l, x < 256) (k : Nat) : ∀ x ∈ l.drop k, x < 256 := fun x hx => hl x (List.mem_of_mem_drop hx)
theorem mem_app {l m : List Nat} (hl : ∀ x ∈ l, x < 256) (hm : ∀ x ∈ m, x < 256) : ∀ x ∈ l ++ m, x < 256 := fun x hx => by
  rcases List.mem_append.1 hx with h | h
  · exact hl x h
  · exact hm x h
theorem val_take_lt {l : List Nat} (hl : ∀ x ∈ l, x < 256) {k m : Nat} (h : k ≤ m) : val (l.take k) < 256 ^ m :=
  Nat.lt_of_lt_of_le (val_lt (mem_take hl k)) (pow_le (by rw [List.length_take]; omega))

/-- Whether a number fits in a size that is one. -/
def fitB (n : Nat) (size : Int) : Bool := decide (1 ≤ size ∧ size ≤ 8 ∧ n < 256 ^ size.toNat)
theorem fit_of {n : Nat} {size : Int} (h : fitB n size = true) : 1 ≤ size ∧ size ≤ 8 ∧ n < 256 ^ size.toNat := by simpa [fitB] using h
theorem fit_mk {n : Nat} {size : Int} (h1 : 1 ≤ size) (h2 : size ≤ 8) (h3 : n < 256 ^ size.toNat) : fitB n size = true := by simp [fitB, h1, h2, h3]
theorem fit_no1 {n : Nat} {size : Int} (h : ¬ (1 ≤ size ∧ size ≤ 8)) : fitB n size = false := by
  simp only [fitB, decide_eq_false_iff_not]
  omega
theorem fit_no2 {n : Nat} {size : Int} (h : ¬ n < 256 ^ size.toNat) : fitB n size = false := by
  simp only [fitB, decide_eq_false_iff_not]
  exact fun hh => h hh.2.2
/-- What a writer has behind a number: bytes, or the error. -/
def wnum (s : Option (List Nat)) (n : Nat) (size : Int) : Option (List Nat) :=
  match s with
  | none => none
  | some l => if fitB n size then some (l ++ be size.toNat n) else none
theorem wnum_none (n : Nat) (size : Int) : wnum none n size = none := rfl
theorem wnum_yes {n : Nat} {size : Int} (l : List Nat) (h : fitB n size = true) : wnum (some l) n size = some (l ++ be size.toNat n) := by simp [wnum, h]
theorem wnum_no {n : Nat} {size : Int} (l : List Nat) (h : fitB n size = false) : wnum (some l) n size = none := by simp [wnum, h]
def wrun (s : Option (List Nat)) (b : List Nat) : Option (List Nat) :=
  match wnum s b.length 4 with
  | none => none
  | some l => some (l ++ b)
/-- A thing. -/
structure Th where
  kind : Nat
  n : Nat
  size : Int
  run : List Nat
def wth (s : Option (List Nat)) (t : Th) : Option (List Nat) :=
  if t.kind % 4 = 0 then wnum s t.n t.size else if t.kind % 4 = 1 then wnum s t.n 8 else if t.kind % 4 = 2 then wnum s (t.n % 2) 1 else wrun s t.run
def wall (s : Option (List Nat)) (l : List Th) : Option (List Nat) := l.foldl wth s

/-- What a reader has: an error, and bytes that are still to be read (none behind an error). -/
def rnum (s : Nat × List Nat) (size : Int) : Nat × (Nat × List Nat) :=
  if s.1 ≠ 0 then (0, s) else if ¬ (1 ≤ size ∧ size ≤ 8) then (0, (1, [])) else if s.2.length < size.toNat then (0, (2, [])) else (val (s.2.take size.toNat), (0, s.2.drop size.toNat))
def rbool (s : Nat × List Nat) : Bool × (Nat × List Nat) := (decide ((rnum s 1).1 = 1), if (rnum s 1).1 ≤ 1 then (rnum s 1).2 else (2, []))
def rrun (s : Nat × List Nat) : List Nat × (Nat × List Nat) :=
  if (rnum s 4).2.1 ≠ 0 then ([], (rnum s 4).2) else if (rnum s 4).2.2.length < (rnum s 4).1 then ([], (2, [])) else ((rnum s 4).2.2.take (rnum s 4).1, (0, (rnum s 4).2.2.drop (rnum s 4).1))
def rdone (s : Nat × List Nat) : Nat := if 0 < s.2.length then 2 else s.1
/-- How many there are, at most, behind what was read. -/
theorem rnum_len (s : Nat × List Nat) (m : Int) : (rnum s m).2.2.length ≤ s.2.length := by
  unfold rnum
  split
  · exact Nat.le_refl _
  · split
    · exact Nat.zero_le _
    · split
      · exact Nat.zero_le _
      · simp
theorem rnum_mem {s : Nat × List Nat} (h : ∀ x ∈ s.2, x < 256) (m : Int) : ∀ x ∈ (rnum s m).2.2, x < 256 := by
  unfold rnum
  split
  · exact h
  · split
    · simp
    · split
      · simp
      · exact mem_drop h _
theorem rnum_lt {s : Nat × List Nat} (h : ∀ x ∈ s.2, x < 256) (k : Nat) (m : Int) (hm : m = (k : Int)) : (rnum s m).1 < 256 ^ k := by
  subst hm
  unfold rnum
  split
  · exact Nat.pow_pos (by decide)
  · split
    · exact Nat.pow_pos (by decide)
    · split
      · exact Nat.pow_pos (by decide)
      · exact val_take_lt h (by simp)
theorem rnum_err {s : Nat × List Nat} (m : Int) (h : s.1 ≠ 0 → s.2 = []) : (rnum s m).2.1 ≠ 0 → (rnum s m).2.2 = [] := by
  unfold rnum
  split
  · exact h
  · split
    · exact fun _ => rfl
    · split
      · exact fun _ => rfl
      · exact fun h0 => absurd rfl h0
/-- No thing. -/
def t0 : Th := ⟨0, 0, 0, []⟩
/-- How many bytes there are in runs. -/
def tot (l : List Th) : Nat := (l.map fun t => t.run.length).sum
theorem tot_append (l m : List Th) : tot (l ++ m) = tot l + tot m := by simp [tot]
theorem tot_take (l : List Th) (k : Nat) : tot (l.take k) ≤ tot l := by
  have h := tot_append (l.take k) (l.drop k)
  rw [List.take_append_drop] at h
  omega
theorem take_th {l : List Th} {k : Nat} (h : k < l.length) : l.take (k + 1) = l.take k ++ [l.getD k t0] := by
  rw [List.take_succ_eq_append_getElem h, List.getD_eq_getElem?_getD, List.getElem?_eq_getElem h]
  rfl
theorem tot_succ {l : List Th} {k : Nat} (h : k < l.length) : tot (l.take (k + 1)) = tot (l.take k) + (l.getD k t0).run.length := by
  rw [take_th h, tot_append]
  simp [tot]
def fitsB (l : List Th) : Bool := decide (l.length ≤ 100 ∧ tot l ≤ 1000)
theorem fits_of {l : List Th} (h : fitsB l = true) : l.length ≤ 100 ∧ tot l ≤ 1000 := by simpa [fitsB] using h
theorem wall_succ (s : Option (List Nat)) {l : List Th} {k : Nat} (h : k < l.length) : wall s (l.take (k + 1)) = wth (wall s (l.take k)) (l.getD k t0) := by
  rw [take_th h]
  simp [wall, List.foldl_append]
theorem wnum_len {s : Option (List Nat)} {m : Nat} (h : ∀ l, s = some l → l.length ≤ m) (n : Nat) (size : Int) : ∀ l, wnum s n size = some l → l.length ≤ m + 8 := by
  intro l hl
  match s, h, hl with
  | none, _, hl => cases hl
  | some l', h, hl =>
    have h' := h l' rfl
    unfold wnum at hl
    by_cases hf : fitB n size = true
    · obtain ⟨_, h2, _⟩ := fit_of hf
      simp only [hf, if_true, Option.some.injEq] at hl
      subst hl
      simp [be_length]
      omega
    · simp [hf] at hl
theorem wth_len {s : Option (List Nat)} {m : Nat} (h : ∀ l, s = some l → l.length ≤ m) (t : Th) : ∀ l, wth s t = some l → l.length ≤ m + 8 + t.run.length := by
  intro l hl
  unfold wth at hl
  split at hl
  · have := wnum_len h _ _ l hl
    omega
  · split at hl
    · have := wnum_len h _ _ l hl
      omega
    · split at hl
      · have := wnum_len h _ _ l hl
        omega
      · unfold wrun at hl
        split at hl
        · cases hl
        · rename_i l' hw
          have := wnum_len h _ _ l' hw
          injection hl with hl
          subst hl
          simp
          omega
theorem wall_len (l : List Th) (k : Nat) (hk : k ≤ l.length) : ∀ b, wall (some []) (l.take k) = some b → b.length ≤ 8 * k + tot (l.take k) := by
  induction k with
  | zero =>
    intro b hb
    simp [wall] at hb
    subst hb
    simp
  | succ k ih =>
    intro b hb
    have hlt : k < l.length := by omega
    rw [wall_succ _ hlt] at hb
    have := wth_len (ih (by omega)) _ b hb
    rw [tot_succ hlt]
    omega
end Go.Proofs.Ytkfmkchonlajpaa.Oc

namespace Go.Proofs.Ytkfmkchonlajpaa
open Go.RowKit

/-- Only blocks of a set have turned, and new ones. -/
structure Turn (S : Nat → Prop) (w w' : World) : Prop where
  os : w'.os = w.os
  tape : w'.tape = w.tape
  output : w'.output = w.output
  size : w.heap.size ≤ w'.heap.size
  block : ∀ k, k < w.heap.size → ¬ S k → w'.heap[k]? = w.heap[k]?
theorem Turn.refl (S : Nat → Prop) (w : World) : Turn S w w := ⟨rfl, rfl, rfl, Nat.le_refl _, fun _ _ _ => rfl⟩
theorem Turn.trans {S S' : Nat → Prop} {a b c : World} (h : Turn S a b) (k : Turn S' b c) (hs : ∀ i, S' i → S i ∨ a.heap.size ≤ i) : Turn S a c :=
  ⟨k.os.trans h.os, k.tape.trans h.tape, k.output.trans h.output, Nat.le_trans h.size k.size, fun i hi hn =>
    (k.block i (Nat.lt_of_lt_of_le hi h.size) (fun hs' => (hs i hs').elim hn (fun h1 => by omega))).trans (h.block i hi hn)⟩
theorem Turn.mono {S S' : Nat → Prop} {a b : World} (h : Turn S a b) (hs : ∀ i, i < a.heap.size → S i → S' i) : Turn S' a b :=
  ⟨h.os, h.tape, h.output, h.size, fun i hi hn => h.block i hi (fun x => hn (hs i hi x))⟩
theorem Turn.drewN {S : Nat → Prop} {a w : World} (h : Turn S a w) (n : Nat) : Turn S a (w.drewN n) := ⟨h.os, h.tape, h.output, h.size, h.block⟩
theorem Turn.drew {S : Nat → Prop} {a w : World} (h : Turn S a w) : Turn S a w.drew := ⟨h.os, h.tape, h.output, h.size, h.block⟩
theorem Turn.alloc {S : Nat → Prop} {a w : World} (h : Turn S a w) (o : Obj) : Turn S a (w.alloc o) :=
  ⟨h.os, h.tape, h.output, Nat.le_trans h.size (by simp), fun i hi hne => (Below.heap_alloc w o i (Nat.lt_of_lt_of_le hi h.size)).trans (h.block i hi hne)⟩
theorem Turn.setCell {S : Nat → Prop} {a w : World} (h : Turn S a w) {p : Addr} (hp : S p.block ∨ a.heap.size ≤ p.block) (u : Value) : Turn S a (w.setCell p u) :=
  ⟨h.os, h.tape, h.output, by simpa [World.setCell] using h.size, fun i hi hne => (Below.heap_setCell w p u i (by
    rintro rfl
    rcases hp with hp | hp
    · exact hne hp
    · omega)).trans (h.block i hi hne)⟩
theorem Turn.grown {S : Nat → Prop} {a w w' : World} {row : Option Nat} (h : Turn S a w) (hg : w.grownBy w' row) (hr : ∀ k, row = some k → S k ∨ a.heap.size ≤ k) : Turn S a w' :=
  ⟨hg.os.trans h.os, hg.tape.trans h.tape, hg.output.trans h.output, Nat.le_trans h.size hg.size, fun i hi hn =>
    (hg.block i (Nat.lt_of_lt_of_le hi h.size) (fun e => (hr i e.symm).elim hn (fun h1 => by omega))).trans (h.block i hi hn)⟩
theorem Turn.of_below {S : Nat → Prop} {w w' : World} (h : Below w.heap.size w w') : Turn S w w' := ⟨h.os, h.tape, h.output, h.size, fun i hi _ => h.block i hi⟩
theorem Turn.below {S : Nat → Prop} {B : Nat} {a w w' : World} (h : Turn S w w') (hb : Below B a w) (hB : B ≤ w.heap.size) (hs : ∀ i, S i → B ≤ i) : Below B a w' :=
  hb.trans ⟨h.os, h.tape, h.output, h.size, fun i hi => h.block i (by omega) (fun hx => by have := hs i hx; omega)⟩
theorem turn_drewN (w : World) (S : Nat → Prop) (n : Nat) : Turn S w (w.drewN n) := (Turn.refl S w).drewN n
/-- The cells that lie in a block: all of them, and none is frozen. -/
def Lies (w : World) (g : Nat) (t : TypeId) (cs : Array Value) : Prop := w.heap[g]? = some (.cells cs t (0, 0))
/-- Another world with that block has them, too: what all the rest leans on. -/
theorem Lies.like {w w' : World} {g : Nat} {t : TypeId} {cs : Array Value} (h : Lies w g t cs) (e : w'.heap[g]? = w.heap[g]?) : Lies w' g t cs := by
  unfold Lies
  rw [e]
  exact h
theorem Lies.lt {w : World} {g : Nat} {t : TypeId} {cs : Array Value} (h : Lies w g t cs) : g < w.heap.size :=
  (Array.getElem?_eq_some_iff.1 h).1
theorem Lies.type {w : World} {g : Nat} {t t' : TypeId} {cs cs' : Array Value} (h : Lies w g t cs) (h' : Lies w g t' cs') : t = t' := by
  have e := Option.some.inj (Eq.trans (Eq.symm h) h')
  injection e
theorem Lies.cell {w : World} {g : Nat} {t : TypeId} {cs : Array Value} (h : Lies w g t cs) (i : Nat) : w.cell? ⟨g, i, none⟩ = cs[i]? := cell_of_row w g i cs t (0, 0) h
theorem Lies.frozen {w : World} {g : Nat} {t : TypeId} {cs : Array Value} (h : Lies w g t cs) (i : Nat) : w.frozen? ⟨g, i, none⟩ = false := by
  simp [World.frozen?, show w.heap[g]? = _ from h]
theorem Lies.new (w : World) (t : TypeId) (cs : Array Value) : Lies (w.alloc (.cells cs t)) w.heap.size t cs := heap_alloc_new w _
theorem Lies.drewN {w : World} {g : Nat} {t : TypeId} {cs : Array Value} (h : Lies w g t cs) (n : Nat) : Lies (w.drewN n) g t cs := h.like rfl
theorem Lies.alloc {w : World} {g : Nat} {t : TypeId} {cs : Array Value} (h : Lies w g t cs) (o : Obj) : Lies (w.alloc o) g t cs := h.like (Below.heap_alloc w o g h.lt)
theorem Lies.below {w w' : World} {B g : Nat} {t : TypeId} {cs : Array Value} (h : Lies w g t cs) (hb : Below B w w') (hg : g < B) : Lies w' g t cs := h.like (hb.block g hg)
theorem Lies.grown {w w' : World} {g : Nat} {t : TypeId} {cs : Array Value} {row : Option Nat} (h : Lies w g t cs) (hb : w.grownBy w' row) (hg : some g ≠ row) : Lies w' g t cs := h.like (hb.block g h.lt hg)
theorem Lies.turn {w w' : World} {g : Nat} {t : TypeId} {cs : Array Value} {S : Nat → Prop} (h : Lies w g t cs) (ht : Turn S w w') (hg : ¬ S g) : Lies w' g t cs := h.like (ht.block g h.lt hg)
theorem Lies.set_ {w : World} {g : Nat} {t : TypeId} {cs : Array Value} (h : Lies w g t cs) (i : Nat) (u : Value) : Lies (w.setCell ⟨g, i, none⟩ u) g t (cs.setIfInBounds i u) := by
  have e : w.heap[g]? = some (.cells cs t (0, 0)) := h
  show (w.setCell ⟨g, i, none⟩ u).heap[g]? = _
  simp [World.setCell, Array.getElem?_modify, e]
/-- A row of another type is another block. -/
theorem own_blk_ne {w : World} {g : Nat} {t : TypeId} {cs : Array Value} {base : Nat} {e : TypeId} {size n : Nat} {v : Value} {xs : List Value} (h : w.ownsRow base e size v n xs) (hg : Lies w g t cs) (hne : e ≠ t) : v.ownBlock ≠ some g := by
  intro he
  rcases h.2 with ⟨hv, _⟩ | ⟨b, cap, cur, hv, _, hh, _⟩
  · rw [hv] at he
    cases he
  · rw [hv] at he
    injection he with he
    simp only at he
    subst he
    exact hne (Lies.type (cs := cur) hh hg)
/-- A row that a call owns is kept where its block is. -/
theorem own_turn {w w' : World} {S : Nat → Prop} {base : Nat} {e : TypeId} {size n : Nat} {v : Value} {xs : List Value} (h : w.ownsRow base e size v n xs) (ht : Turn S w w') (hs : ∀ k, v.ownBlock = some k → ¬ S k) : w'.ownsRow base e size v n xs := by
  refine ⟨h.1, ?_⟩
  rcases h.2 with h0 | ⟨g, cap, cur, rfl, hb, hh, r⟩
  · exact .inl h0
  · exact .inr ⟨g, cap, cur, rfl, hb, (Lies.turn hh ht (hs g rfl)), r⟩
/-- Bytes are kept where their block is. -/
theorem At.turn {w w' : World} {S : Nat → Prop} {p : Option Addr} {n : Nat} {l : List Nat} (h : At w p n l) (ht : Turn S w w') (hs : ∀ a, p = some a → ¬ S a.block) : At w' p n l := by
  obtain ⟨hl, hx, hc⟩ := h
  refine ⟨hl, hx, fun h0 => ?_⟩
  obtain ⟨b, o, hp, hj⟩ := hc h0
  refine ⟨b, o, hp, fun j hjm => ?_⟩
  have hlt : b < w.heap.size := World.block_lt_of_cell? w _ (hj j hjm)
  exact (World.cell?_of_block (a := ⟨b, o + j, none⟩) (ht.block b hlt (hs _ hp))).trans (hj j hjm)
theorem At.turn' {w w' : World} {S : Nat → Prop} {p : Option Addr} {n : Nat} {l : List Nat} (h : At w p n l) (ht : Turn S w w') (hs : 0 < n → ∀ a, p = some a → ¬ S a.block) : At w' p n l := by
  by_cases hn : 0 < n
  · exact h.turn ht (hs hn)
  · exact ⟨h.1, h.2.1, fun h0 => absurd h0 hn⟩
/-- A row that the call owns has a block of those that are the call's, and one that is there. -/
theorem own_lt {w : World} {base : Nat} {e : TypeId} {size n : Nat} {v : Value} {xs : List Value} (h : w.ownsRow base e size v n xs) {k : Nat} (hk : v.ownBlock = some k) : base ≤ k ∧ k < w.heap.size := by
  have := h.lt k hk
  omega
theorem own_slice {w : World} {base : Nat} {e : TypeId} {size n : Nat} {v : Value} {xs : List Value} (h : w.ownsRow base e size v n xs) : ∃ q d, v = .slice q n d := by
  rcases h.2 with ⟨rfl, rfl⟩ | ⟨g, cap, cur, rfl, _⟩
  · exact ⟨none, 0, rfl⟩
  · exact ⟨_, _, rfl⟩
theorem bys_snoc (l : List Nat) (x : Nat) : bys l ++ [.int .u8 (x : Int)] = bys (l ++ [x]) := by simp [bys]
/-- A block whose cells are no bytes. -/
def NoU8 (cs : Array Value) : Prop := ∀ (i : Nat) (x : Int), cs[i]? ≠ some (Value.int .u8 x)
theorem noU8_2 (p : Option Addr) (n c : Nat) (e : Int) : NoU8 #[.slice p n c, .int .i64 e] := by
  intro i x h
  match i with
  | 0 => simp at h
  | 1 => simp at h
  | i + 2 => simp at h
theorem noU8_3 (p : Option Addr) (n c : Nat) (a e : Int) : NoU8 #[.slice p n c, .int .i64 a, .int .i64 e] := by
  intro i x h
  match i with
  | 0 => simp at h
  | 1 => simp at h
  | 2 => simp at h
  | i + 3 => simp at h
theorem At.ne_lies {w : World} {p : Option Addr} {n : Nat} {l : List Nat} {g : Nat} {t : TypeId} {cs : Array Value} (h : At w p n l) (hb : Lies w g t cs) (hc : NoU8 cs) (hn : 0 < n) : ∀ a, p = some a → a.block ≠ g := by
  rintro a rfl hg
  obtain ⟨b, o, e, hj⟩ := h.2.2 hn
  injection e with e
  subst e
  have h0 := hj 0 hn
  simp only at hg
  subst hg
  rw [Nat.add_zero, hb.cell o] at h0
  exact hc o _ h0
/-- Each block of a set is one whose cells are no bytes. -/
def Plain (w : World) (S : Nat → Prop) : Prop := ∀ k, S k → ∃ t cs, Lies w k t cs ∧ NoU8 cs
theorem At.plain {w w' : World} {S : Nat → Prop} {p : Option Addr} {n : Nat} {l : List Nat} (h : At w p n l) (ht : Turn S w w') (hs : Plain w S) : At w' p n l :=
  h.turn' ht (fun hn a ha hS => by
    obtain ⟨t, cs, hb, hc⟩ := hs _ hS
    exact h.ne_lies hb hc hn a ha rfl)
theorem At.cut {w : World} {p : Option Addr} {n : Nat} {l : List Nat} (h : At w p n l) {k : Nat} (hk : k ≤ n) : At w (p.map fun x => x.add k) (n - k) (l.drop k) := by
  obtain ⟨hl, hx, hc⟩ := h
  refine ⟨by rw [List.length_drop, hl], Oc.mem_drop hx k, fun h0 => ?_⟩
  obtain ⟨b, o, rfl, hj⟩ := hc (by omega)
  refine ⟨b, o + k, by simp [add_none], fun j hjn => ?_⟩
  have e := hj (k + j) (by omega)
  rw [← Nat.add_assoc] at e
  rw [e, List.getD_eq_getElem?_getD, List.getD_eq_getElem?_getD, List.getElem?_drop]
theorem At.none_left {w : World} {p : Option Addr} {l : List Nat} (h : l.length = 0) : At w p 0 l := by
  obtain rfl : l = [] := List.eq_nil_of_length_eq_zero h
  exact ⟨rfl, by simp, fun h0 => absurd h0 (by decide)⟩
/-- Bytes that are handed out: they read as a list. -/
def Out (w : World) (v : Value) (l : List Nat) : Prop := ∃ q d, v = .slice q l.length d ∧ l.length ≤ d ∧ At w q l.length l
theorem out_nil (w : World) : Out w (.slice none 0 0) [] := ⟨none, 0, rfl, Nat.le_refl _, at_nil w⟩
theorem at_one (w : World) (u : Nat) (hu : u < 256) : At (w.alloc (.cells #[.int .u8 (u : Int)] 5)) (some ⟨w.heap.size, 0, none⟩) 1 [u] := by
  refine ⟨rfl, ?_, fun _ => ⟨w.heap.size, 0, rfl, fun j hj => ?_⟩⟩
  · intro x hx
    rw [List.mem_singleton.1 hx]
    exact hu
  · rw [Nat.zero_add, cell_of_row _ w.heap.size j _ 5 (0, 0) (heap_alloc_new w _)]
    match j, hj with
    | 0, _ => rfl
/-- No bytes: wherever they lie. -/
theorem at_zero (w : World) (q : Option Addr) : At w q 0 [] := ⟨rfl, by simp, fun h => absurd h (by decide)⟩
theorem alloc_below (w : World) (o : Obj) : Below w.heap.size w (w.alloc o) := (Below.refl _ w).alloc (Nat.le_refl _) o
theorem made_bytes (m : Nat) : (madeCells #[Value.int .u8 0] m).toList = bys (List.replicate m 0) := by
  apply List.ext_getElem
  · simp [madeCells, bys]
  · intro i h1 h2
    have h : i < m := by simpa [bys] using h2
    simp [madeCells, bys, Nat.mod_one]
/-- A byte of a number, as the walk has it. -/
theorem byte_of (n j : Nat) : ∃ x : Nat, x = n / 256 ^ j % 256 ∧ IntKind.u8.wrap ((n : Int) / 2 ^ (8 * (j : Int)).toNat) = (x : Int) := by
  refine ⟨_, rfl, ?_⟩
  have e : (8 * (j : Int)).toNat = 8 * j := by omega
  rw [e, IntKind.wrap_u8]
  have e2 : (256 : Nat) ^ j = 2 ^ (8 * j) := by rw [Nat.pow_mul]
  rw [e2]
  have e3 : ((n : Int) / 2 ^ (8 * j)) = ((n / 2 ^ (8 * j) : Nat) : Int) := by
    rw [Int.natCast_ediv]
    simp
  rw [e3]
  generalize n / 2 ^ (8 * j) = q
  omega
theorem u64_join (u x : Nat) (hu : u < 72057594037927936) (hx : x < 256) : bits .or .u64 ((u : Int) * 256) (x : Int) = ((256 * u + x : Nat) : Int) := by
  rw [show (u : Int) * 256 = ((256 * u : Nat) : Int) by omega, u64_or_nat _ _ (by omega) (by omega), nat_join 8 _ _ (by omega) (by omega)]
theorem u64_of_wrap (n : Nat) (h : n < 18446744073709551616) : IntKind.u64.wrap (wrap64 (n : Int)) = (n : Int) := by
  rw [IntKind.wrap_u64]
  unfold wrap64
  omega
theorem bit_of (n : Nat) : (if ((n : Int) % 2 == 1) = true then 1 else 0) = n % 2 := by
  by_cases h : n % 2 = 1
  · rw [if_pos (by simp; omega), h]
  · rw [if_neg (by simp; omega)]
    omega
theorem list_of {α : Type} (d : α) (Q : Nat → α → Prop) (n : Nat) (h : ∀ i, i < n → ∃ t, Q i t) : ∃ l : List α, l.length = n ∧ ∀ i, i < n → Q i (l.getD i d) := by
  induction n with
  | zero => exact ⟨[], rfl, fun i hi => by omega⟩
  | succ n ih =>
    obtain ⟨l, hl, hq⟩ := ih (fun i hi => h i (by omega))
    obtain ⟨t, ht⟩ := h n (by omega)
    refine ⟨l ++ [t], by simp [hl], fun i hi => ?_⟩
    by_cases hin : i < n
    · have := hq i hin
      rw [List.getD_eq_getElem?_getD] at this ⊢
      rwa [List.getElem?_append_left (by omega)]
    · obtain rfl : i = n := by omega
      rw [List.getD_eq_getElem?_getD, List.getElem?_append_right (by omega), hl, Nat.sub_self]
      exact ht
theorem nat_u64 {n : Int} (h : (Lit.int .u64 n).wf = true) : 0 ≤ n ∧ n < 18446744073709551616 := by
  have h1 := (Lit.wf_int_iff .u64 n).1 h
  have e1 : IntKind.u64.min = 0 := by decide
  have e2 : IntKind.u64.max = 18446744073709551615 := by decide
  rw [e1, e2] at h1
  omega
end Go.Proofs.Ytkfmkchonlajpaa

namespace Go.Proofs.Ytkfmkchonlajpaa
open Go.ChangeShapes Go.WideShapes Go.Deep

/-- The parts of a struct that lies in a row: its cells, each field's own reading. -/
theorem open_parts {H : Type} {enc : TypeId × Value → H} {P : Program} {w : World} {base : Nat} {spare : Nat → Bool} {held : Bool} {t e : TypeId} {fs : Array Field} {m fuel : Nat} {cs : List Value} {x : DataW H × List MemPlace}
    (ht : P.underlying t = some (.slice e)) (he : P.underlying e = some (.struct fs)) (hm : P.cellsOf e = m) (h : DataW.trod enc P w base spare held fuel t cs = some x) :
    cs = [.slice none 0 0] ∨ ∃ (a : Addr) (len cap : Nat), cs = [.slice (some a) len cap] ∧ len ≤ cap ∧ cap ≤ maxLen ∧
      ∀ i, i < len → ∃ (part : List Value) (n : Nat), part.length = m ∧ (∀ j, j < m → w.cell? (a.add (i * m + j)) = part[j]?) ∧
        ∀ (k : Nat) (f : Field), fs[k]? = some f → ∃ y, DataW.trod enc P w base spare held n f.type ((part.drop f.offset).take (P.cellsOf f.type)) = some y := by
  subst hm
  rcases open_slice ht h with h0 | ⟨a, len, cap, m, n, D, Pl, h1, _, h2, h3, h4, _, h5⟩
  · exact .inl h0.1
  · refine .inr ⟨a, len, cap, h1, h2, h3, fun i hi => ?_⟩
    have him : i < m := by
      rw [h4]
      split <;> omega
    obtain ⟨part, hp, hd⟩ := h5 i him
    obtain ⟨_, hl, hc⟩ := World.cells?_some hp
    obtain ⟨ys, n', _, _, _, hyl, hf⟩ := DataW.trod_struct he hd
    refine ⟨part, n', hl, fun j hj => ?_, fun k f hk => ?_⟩
    · rw [← Go.Deep.add_add]
      exact hc j hj
    · have hlt : k < ys.length := by
        rw [hyl]
        exact (Array.getElem?_eq_some_iff.1 hk).1
      exact ⟨ys[k], by rw [hf k f hk, List.getElem?_eq_getElem hlt]⟩
/-- A struct that came in by value: its parts, each field's own reading. -/
theorem open_whole {H : Type} {enc : TypeId × Value → H} {P : Program} {w : World} {base : Nat} {spare : Nat → Bool} {held : Bool} {r : Reach} {b0 : Nat} {t : TypeId} {fs : Array Field} {m : Nat} {v : Value} {d : DataW H} {ps : List MemPlace}
    (hs : P.underlying t = some (.struct fs)) (hm : P.cellsOf t = m) (hv : Value.okWide P w r b0 t v) (h : DataW.Trod enc P w base spare held t v d ps) :
    ∃ cs : List Value, v = .agg ⟨cs⟩ ∧ cs.length = m ∧ ∀ (k : Nat) (f : Field), fs[k]? = some f → ∃ n y, DataW.trod enc P w base spare held n f.type ((cs.drop f.offset).take (P.cellsOf f.type)) = some y := by
  subst hm
  simp only [Value.okWide, hs] at hv
  obtain ⟨⟨cs⟩, rfl, hn, _⟩ := hv
  obtain ⟨fuel, hf⟩ := h
  obtain ⟨ys, n, _, _, hl, hyl, hg⟩ := DataW.trod_struct hs hf
  refine ⟨cs, rfl, by simpa [Value.cells] using hl, fun k f hk => ?_⟩
  have hlt : k < ys.length := by
    rw [hyl]
    exact (Array.getElem?_eq_some_iff.1 hk).1
  exact ⟨n, ys[k], by simpa [Value.cells, List.getElem?_eq_getElem hlt] using hg k f hk⟩
/-- An array that came in by value: its parts, each element's own reading. -/
theorem open_array {H : Type} {enc : TypeId × Value → H} {P : Program} {w : World} {base : Nat} {spare : Nat → Bool} {held : Bool} {r : Reach} {b0 : Nat} {t e : TypeId} {m j c : Nat} {v : Value} {d : DataW H} {ps : List MemPlace}
    (hs : P.underlying t = some (.array j e)) (hm : P.cellsOf t = m) (hc : P.cellsOf e = c) (hv : Value.okWide P w r b0 t v) (h : DataW.Trod enc P w base spare held t v d ps) :
    ∃ cs : List Value, v = .agg ⟨cs⟩ ∧ cs.length = m ∧ ∀ k, k < j → ∃ n y, DataW.trod enc P w base spare held n e ((cs.drop (k * c)).take c) = some y := by
  subst hm hc
  simp only [Value.okWide, hs] at hv
  obtain ⟨⟨cs⟩, rfl, hn, _⟩ := hv
  obtain ⟨fuel, hf⟩ := h
  obtain ⟨ys, n, _, _, hl, hyl, hg⟩ := DataW.trod_array hs hf
  refine ⟨cs, rfl, by simpa [Value.cells] using hl, fun k hk => ?_⟩
  have hlt : k < ys.length := by rw [hyl]; exact hk
  exact ⟨n, ys[k], by simpa [Value.cells, List.getElem?_eq_getElem hlt] using hg k hk⟩
end Go.Proofs.Ytkfmkchonlajpaa

namespace Go.Proofs.Ytkfmkchonlajpaa
open Go.RowKit Go.ChangeShapes Go.WideShapes
/-- Bytes that came in. -/
structure Bs where
  p : Option Addr
  n : Nat
  c : Nat
def InB (W : World) (v : Value) (x : Bs) : Prop := v = .slice x.p x.n x.c ∧ x.n ≤ x.c ∧ x.n ≤ 9223372036854775807 ∧ ∃ l, At W x.p x.n l
/-- A whole number that came in. -/
def InI (k : IntKind) (v : Value) (x : Int) : Prop := v = .int k x ∧ (Lit.int k x).wf = true
set_option maxRecDepth 100000 in
theorem inI_of {H : Type} {enc : TypeId × Value → H} {W : World} {base : Nat} {v : Value} {d : DataW H} {ps : List MemPlace} {t : TypeId} {k : IntKind} (ht : Try.prog.underlying t = some (.int k)) (hv : Value.okWide Try.prog W .any base t v)
    (h : DataW.Trod enc Try.prog W 0 (fun _ => true) true t v d ps) : ∃ x, InI k v x := by
  obtain ⟨n, rfl⟩ := okWide_int ht hv
  obtain ⟨fuel, hf⟩ := h
  obtain ⟨m, hm, _, hw⟩ := DataW.trod_int ht hf
  simp [Value.cells] at hm
  exact ⟨n, rfl, hm ▸ hw⟩
end Go.Proofs.Ytkfmkchonlajpaa

namespace Go.Proofs.Ytkfmkchonlajpaa
open Go.RowKit Go.ChangeShapes Go.WideShapes

namespace Se
/-- Two numbers that came in. -/
def In2 (k : IntKind) (v : Value) (x : Int × Int) : Prop := v = .agg #[.int k x.1, .int k x.2] ∧ (Lit.int k x.1).wf = true ∧ (Lit.int k x.2).wf = true
set_option maxRecDepth 100000 in
theorem in2_of {H : Type} {enc : TypeId × Value → H} {W : World} {base : Nat} {v : Value} {d : DataW H} {ps : List MemPlace} {t e : TypeId} {k : IntKind} (ht : Try.prog.underlying t = some (.array 2 e)) (he : Try.prog.underlying e = some (.int k)) (hm : Try.prog.cellsOf t = 2) (hc : Try.prog.cellsOf e = 1) (hv : Value.okWide Try.prog W .any base t v)
    (h : DataW.Trod enc Try.prog W 0 (fun _ => true) true t v d ps) : ∃ x, In2 k v x := by
  obtain ⟨cs, rfl, hl, hf⟩ := open_array ht hm hc hv h
  match cs, hl with
  | [v0, v1], _ =>
    obtain ⟨n0, y0, f0⟩ := hf 0 (by decide)
    obtain ⟨n1, y1, f1⟩ := hf 1 (by decide)
    simp only [Nat.zero_mul, Nat.one_mul, List.drop_zero, List.drop_succ_cons, List.take_succ_cons, List.take_zero] at f0 f1
    obtain ⟨m0, e0, _, g0⟩ := DataW.trod_int he f0
    obtain ⟨m1, e1, _, g1⟩ := DataW.trod_int he f1
    simp only [List.cons.injEq, and_true] at e0 e1
    subst e0 e1
    exact ⟨(m0, m1), rfl, g0, g1⟩
theorem i64_of {n : Int} (h : (Lit.int .i64 n).wf = true) : -9223372036854775808 ≤ n ∧ n ≤ 9223372036854775807 := by
  have h1 := (Lit.wf_int_iff .i64 n).1 h
  have e1 : IntKind.i64.min = -9223372036854775808 := by decide
  have e2 : IntKind.i64.max = 9223372036854775807 := by decide
  rw [e1, e2] at h1
  omega
theorem u32_of {n : Int} (h : (Lit.int .u32 n).wf = true) : ∃ m : Nat, n = (m : Int) ∧ m < 4294967296 := by
  have h1 := (Lit.wf_int_iff .u32 n).1 h
  have e1 : IntKind.u32.min = 0 := by decide
  have e2 : IntKind.u32.max = 4294967295 := by decide
  rw [e1, e2] at h1
  exact ⟨n.toNat, by omega, by omega⟩
end Se
end Go.Proofs.Ytkfmkchonlajpaa

namespace Go.Proofs.Ytkfmkchonlajpaa.Sy

/-- A stay. -/
structure Sy where
  zone : Int
  frm : Int
  to : Int
  deriving DecidableEq
/-- Does a stay have a minute? -/
def has (m : Int) (s : Sy) : Bool := decide (s.frm ≤ m) && (decide (s.to = -1) || decide (m < s.to))
theorem has_iff {m : Int} {s : Sy} : has m s = true ↔ s.frm ≤ m ∧ (s.to = -1 ∨ m < s.to) := by simp [has]
/-- May stays be? -/
def Right (l : List Sy) : Prop := ∀ (i : Nat) (s : Sy), l[i]? = some s → 1 ≤ s.zone ∧ 0 ≤ s.frm ∧ (s.frm < s.to ∨ s.to = -1 ∧ i + 1 = l.length) ∧ ∀ t : Sy, l[i + 1]? = some t → t.frm = s.to
/-- Stays that all ended, the last one at a minute. -/
def Shut (l : List Sy) : Prop := ∀ (i : Nat) (s : Sy), l[i]? = some s → 1 ≤ s.zone ∧ 0 ≤ s.frm ∧ s.frm < s.to ∧ ∀ t : Sy, l[i + 1]? = some t → t.frm = s.to
def Ends (l : List Sy) (e : Int) : Prop := ∀ s : Sy, l.getLast? = some s → s.to = e
theorem right_nil : Right [] := fun i s h => by simp at h
theorem shut_nil : Shut [] := fun i s h => by simp at h
theorem ends_nil (e : Int) : Ends [] e := fun s h => by simp at h
theorem ends_snoc (A : List Sy) (s : Sy) : Ends (A ++ [s]) s.to := fun t h => by
  rw [List.getLast?_concat] at h
  rw [Option.some.inj h]
theorem ends_eq {A : List Sy} {s : Sy} {e : Int} (h : Ends (A ++ [s]) e) : s.to = e := h s (by rw [List.getLast?_concat])
theorem shut_right {l : List Sy} (h : Shut l) : Right l := fun i s hs => by
  obtain ⟨a, b, c, d⟩ := h i s hs
  exact ⟨a, b, .inl c, d⟩
/-- One more, behind. -/
theorem right_snoc {A : List Sy} {s : Sy} : Right (A ++ [s]) ↔ Shut A ∧ 1 ≤ s.zone ∧ 0 ≤ s.frm ∧ (s.frm < s.to ∨ s.to = -1) ∧ Ends A s.frm := by
  constructor
  · intro h
    refine ⟨fun i a ha => ?_, ?_⟩
    · have hi : i < A.length := (List.getElem?_eq_some_iff.1 ha).1
      have h1 := h i a (by rw [List.getElem?_append_left hi]; exact ha)
      refine ⟨h1.1, h1.2.1, ?_, fun t ht => ?_⟩
      · rcases h1.2.2.1 with h2 | h2
        · exact h2
        · have := h2.2
          simp at this
          omega
      · have hi' : i + 1 < A.length := (List.getElem?_eq_some_iff.1 ht).1
        exact h1.2.2.2 t (by rw [List.getElem?_append_left hi']; exact ht)
    · have h1 := h A.length s (by simp)
      refine ⟨h1.1, h1.2.1, ?_, fun a ha => ?_⟩
      · rcases h1.2.2.1 with h2 | h2
        · exact .inl h2
        · exact .inr h2.1
      · rw [List.getLast?_eq_getElem?] at ha
        have hlt := (List.getElem?_eq_some_iff.1 ha).1
        have h2 := h (A.length - 1) a (by rw [List.getElem?_append_left hlt]; exact ha)
        exact (h2.2.2.2 s (by rw [show A.length - 1 + 1 = A.length by omega]; simp)).symm
  · rintro ⟨hA, z, f, t, e⟩ i a ha
    by_cases hi : i < A.length
    · rw [List.getElem?_append_left hi] at ha
      obtain ⟨h1, h2, h3, h4⟩ := hA i a ha
      refine ⟨h1, h2, .inl h3, fun b hb => ?_⟩
      by_cases hi' : i + 1 < A.length
      · rw [List.getElem?_append_left hi'] at hb
        exact h4 b hb
      · have : i + 1 = A.length := by omega
        rw [List.getElem?_append_right (by omega), this, Nat.sub_self] at hb
        simp at hb
        subst hb
        exact (e a (by rw [List.getLast?_eq_getElem?, show A.length - 1 = i by omega]; exact ha)).symm
    · have hl : i < (A ++ [s]).length := (List.getElem?_eq_some_iff.1 ha).1
      have : i = A.length := by
        simp at hl
        omega
      subst this
      simp at ha
      subst ha
      refine ⟨z, f, ?_, fun b hb => ?_⟩
      · rcases t with t | t
        · exact .inl t
        · exact .inr ⟨t, by simp⟩
      · have := (List.getElem?_eq_some_iff.1 hb).1
        simp at this
theorem shut_snoc {A : List Sy} {s : Sy} : Shut (A ++ [s]) ↔ Shut A ∧ 1 ≤ s.zone ∧ 0 ≤ s.frm ∧ s.frm < s.to ∧ Ends A s.frm := by
  constructor
  · intro h
    have h1 := right_snoc.1 (shut_right h)
    have h2 := h A.length s (by simp)
    exact ⟨h1.1, h1.2.1, h1.2.2.1, h2.2.2.1, h1.2.2.2.2⟩
  · rintro ⟨hA, z, f, t, e⟩ i a ha
    have h1 := right_snoc.2 ⟨hA, z, f, .inl t, e⟩ i a ha
    refine ⟨h1.1, h1.2.1, ?_, h1.2.2.2⟩
    rcases h1.2.2.1 with h2 | h2
    · exact h2
    · have : i = A.length := by have := h2.2; simp at this; omega
      subst this
      simp at ha
      subst ha
      exact t
theorem ends_of (l : List Sy) : l = [] ∨ ∃ A s, l = A ++ [s] := by
  rcases List.eq_nil_or_concat l with h | ⟨A, s, h⟩
  · exact .inl h
  · exact .inr ⟨A, s, by rw [h, List.concat_eq_append]⟩
/-- The zone of the stay that has a minute; 0, if none has. -/
def zoneS (l : List Sy) (m : Int) : Int := match l.find? (has m) with
  | none => 0
  | some s => s.zone
theorem zone_snoc (A : List Sy) (s : Sy) (m : Int) : zoneS (A ++ [s]) m = if zoneS A m ≠ 0 ∨ (A.find? (has m)).isSome then zoneS A m else if has m s then s.zone else 0 := by
  unfold zoneS
  rw [List.find?_append]
  cases h : A.find? (has m) with
  | none =>
    simp only [Option.none_or, List.find?_cons, List.find?_nil]
    cases has m s <;> simp
  | some a => simp
/-- Of stays that ended no one has a minute behind the end. -/
theorem shut_le {A : List Sy} {e : Int} (h : Shut A) (he : Ends A e) : ∀ s ∈ A, s.to ≤ e ∧ s.frm < s.to := by
  suffices H : ∀ (k : List Sy) (e : Int), Shut k.reverse → Ends k.reverse e → ∀ s ∈ k.reverse, s.to ≤ e ∧ s.frm < s.to by
    have := H A.reverse e
    rw [List.reverse_reverse] at this
    exact this h he
  intro k
  induction k with
  | nil => intro e _ _ s hs; simp at hs
  | cons x k ih =>
    intro e h he s hs
    rw [List.reverse_cons] at h he hs
    have h1 := shut_snoc.1 h
    have h2 := ends_eq he
    rcases List.mem_append.1 hs with hs | hs
    · have h3 := ih x.frm h1.1 h1.2.2.2.2 s hs
      have := h1.2.2.2.1
      omega
    · rw [List.mem_singleton.1 hs]
      exact ⟨by omega, h1.2.2.2.1⟩
theorem find_none {A : List Sy} {e m : Int} (h : Shut A) (he : Ends A e) (hm : e ≤ m) : A.find? (has m) = none := by
  rw [List.find?_eq_none]
  intro s hs hh
  have h1 := shut_le h he s hs
  rw [has_iff] at hh
  have h2 : 0 ≤ s.frm := by
    obtain ⟨i, hi⟩ := List.mem_iff_getElem?.1 hs
    exact (h i s hi).2.1
  omega
theorem zone_shut {A : List Sy} {e m : Int} (h : Shut A) (he : Ends A e) (hm : e ≤ m) : zoneS A m = 0 := by
  unfold zoneS
  rw [find_none h he hm]
/-- Ahead of the last one's From, the last one makes no difference. -/
theorem zone_ahead {A : List Sy} {s : Sy} {m : Int} (hm : m < s.frm) : zoneS (A ++ [s]) m = zoneS A m := by
  unfold zoneS
  rw [List.find?_append]
  have h1 : has m s = false := by
    cases h : has m s
    · rfl
    · rw [has_iff] at h
      omega
  cases h : A.find? (has m) with
  | none => simp [h1]
  | some a => simp
/-- From there on, it alone counts. -/
theorem zone_last {A : List Sy} {s : Sy} {m : Int} (h : Shut A) (he : Ends A s.frm) (hm : s.frm ≤ m) : zoneS (A ++ [s]) m = if s.to = -1 ∨ m < s.to then s.zone else 0 := by
  unfold zoneS
  rw [List.find?_append, find_none h he hm]
  by_cases hc : s.to = -1 ∨ m < s.to
  · rw [if_pos hc]
    simp [has_iff.2 ⟨hm, hc⟩]
  · rw [if_neg hc]
    have h1 : has m s = false := by
      cases h : has m s
      · rfl
      · rw [has_iff] at h
        exact absurd h.2 hc
    simp [h1]
end Go.Proofs.Ytkfmkchonlajpaa.Sy

namespace Go.Proofs.Ytkfmkchonlajpaa.Sy

/-- Stays, the last of which ends, if it goes on. -/
def untilS (l : List Sy) (now : Int) : List Sy := match l.getLast? with
  | none => l
  | some s => if s.to = -1 then (if s.frm < now then l.dropLast ++ [⟨s.zone, s.frm, now⟩] else l.dropLast) else l
theorem until_cut {A : List Sy} {s : Sy} {now : Int} (h : s.to = -1) (hn : s.frm < now) : untilS (A ++ [s]) now = A ++ [⟨s.zone, s.frm, now⟩] := by simp [untilS, h, hn]
theorem until_drop {A : List Sy} {s : Sy} {now : Int} (h : s.to = -1) (hn : ¬ s.frm < now) : untilS (A ++ [s]) now = A := by simp [untilS, h, hn]
theorem until_shut {A : List Sy} {s : Sy} {now : Int} (h : s.to ≠ -1) : untilS (A ++ [s]) now = A ++ [s] := by simp [untilS, h]
/-- From now on in a zone. -/
def goS (U : List Sy) (z now : Int) : List Sy := match U.getLast? with
  | none => U ++ [⟨z, now, -1⟩]
  | some u => if u.zone = z then U.dropLast ++ [⟨u.zone, u.frm, -1⟩] else U ++ [⟨z, now, -1⟩]
theorem go_nil (z now : Int) : goS [] z now = [⟨z, now, -1⟩] := rfl
theorem go_same {B : List Sy} {u : Sy} {now : Int} : goS (B ++ [u]) u.zone now = B ++ [⟨u.zone, u.frm, -1⟩] := by simp [goS]
theorem go_new {B : List Sy} {u : Sy} {z now : Int} (h : u.zone ≠ z) : goS (B ++ [u]) z now = B ++ [u] ++ [⟨z, now, -1⟩] := by simp [goS, h]
/-- May something be done now? -/
def May (l : List Sy) (now : Int) : Prop := Right l ∧ 0 ≤ now ∧ ∀ s, l.getLast? = some s → s.to = -1 ∧ s.frm ≤ now ∨ s.to = now
theorem may_last {A : List Sy} {s : Sy} {now : Int} (h : May (A ++ [s]) now) : s.to = -1 ∧ s.frm ≤ now ∨ s.to = now := h.2.2 s (by rw [List.getLast?_concat])
theorem until_ok {l : List Sy} {now : Int} (h : May l now) : Shut (untilS l now) ∧ Ends (untilS l now) now := by
  rcases ends_of l with rfl | ⟨A, s, rfl⟩
  · exact ⟨shut_nil, ends_nil now⟩
  · obtain ⟨h1, h2, h3, h4, h5⟩ := right_snoc.1 h.1
    have h0 := h.2.1
    rcases may_last h with ⟨e, hf⟩ | e
    · by_cases hn : s.frm < now
      · rw [until_cut e hn]
        exact ⟨shut_snoc.2 ⟨h1, h2, h3, hn, h5⟩, ends_snoc A _⟩
      · rw [until_drop e hn]
        have : s.frm = now := by omega
        exact ⟨h1, this ▸ h5⟩
    · have hne : s.to ≠ -1 := by omega
      rw [until_shut hne]
      refine ⟨shut_snoc.2 ⟨h1, h2, h3, ?_, h5⟩, e ▸ ends_snoc A s⟩
      rcases h4 with h4 | h4
      · exact h4
      · exact absurd h4 hne
theorem zone_until {l : List Sy} {now m : Int} (h : May l now) (hm : m < now) : zoneS (untilS l now) m = zoneS l m := by
  rcases ends_of l with rfl | ⟨A, s, rfl⟩
  · rfl
  · obtain ⟨h1, h2, h3, h4, h5⟩ := right_snoc.1 h.1
    rcases may_last h with ⟨e, hf⟩ | e
    · by_cases hn : s.frm < now
      · rw [until_cut e hn]
        by_cases hf : m < s.frm
        · rw [zone_ahead hf, zone_ahead (s := ⟨s.zone, s.frm, now⟩) hf]
        · rw [zone_last h1 h5 (by omega), zone_last (s := ⟨s.zone, s.frm, now⟩) h1 h5 (by simp only; omega), if_pos (.inr hm), if_pos (.inl e)]
      · rw [until_drop e hn, zone_ahead (by omega)]
    · rw [until_shut (by have := h.2.1; omega)]
theorem go_ok {U : List Sy} {z now : Int} (h : Shut U) (he : Ends U now) (h0 : 0 ≤ now) (hz : 1 ≤ z) : Right (goS U z now) ∧ ∃ A x, goS U z now = A ++ [x] ∧ x.to = -1 ∧ x.frm ≤ now ∧ x.zone = z := by
  rcases ends_of U with rfl | ⟨B, u, rfl⟩
  · rw [go_nil]
    exact ⟨(right_snoc (A := []) (s := ⟨z, now, -1⟩)).2 ⟨shut_nil, hz, h0, .inr rfl, ends_nil _⟩, [], _, rfl, rfl, Int.le_refl _, rfl⟩
  · obtain ⟨h1, h2, h3, h4, h5⟩ := shut_snoc.1 h
    have e := ends_eq he
    by_cases hc : u.zone = z
    · subst hc
      rw [go_same]
      exact ⟨right_snoc.2 ⟨h1, h2, h3, .inr rfl, h5⟩, B, _, rfl, rfl, by simp only; omega, rfl⟩
    · rw [go_new hc]
      exact ⟨right_snoc.2 ⟨h, hz, h0, .inr rfl, he⟩, _, _, rfl, rfl, Int.le_refl _, rfl⟩
theorem zone_go {U : List Sy} {z now : Int} (h : Shut U) (he : Ends U now) (m : Int) : zoneS (goS U z now) m = if m < now then zoneS U m else z := by
  rcases ends_of U with rfl | ⟨B, u, rfl⟩
  · rw [go_nil]
    by_cases hm : m < now
    · rw [if_pos hm, show [(⟨z, now, -1⟩ : Sy)] = [] ++ [⟨z, now, -1⟩] from rfl, zone_ahead hm]
    · rw [if_neg hm, show [(⟨z, now, -1⟩ : Sy)] = [] ++ [⟨z, now, -1⟩] from rfl, zone_last shut_nil (ends_nil _) (by simp only; omega), if_pos (.inl rfl)]
  · obtain ⟨h1, h2, h3, h4, h5⟩ := shut_snoc.1 h
    have e := ends_eq he
    by_cases hc : u.zone = z
    · subst hc
      rw [go_same]
      by_cases hf : m < u.frm
      · rw [zone_ahead hf, zone_ahead (s := ⟨u.zone, u.frm, -1⟩) hf, if_pos (by omega)]
      · rw [zone_last h1 h5 (by omega), zone_last (s := ⟨u.zone, u.frm, -1⟩) h1 h5 (by simp only; omega), if_pos (.inl rfl)]
        by_cases hm : m < now
        · rw [if_pos hm, if_pos (.inr (by omega))]
        · rw [if_neg hm]
    · rw [go_new hc]
      by_cases hm : m < now
      · rw [if_pos hm, zone_ahead (s := ⟨z, now, -1⟩) hm]
      · rw [if_neg hm, zone_last (s := ⟨z, now, -1⟩) h he (by simp only; omega), if_pos (.inl rfl)]
/-- How many minutes up to one a stay has. -/
def minS (M : Int) (s : Sy) : Int := if s.frm < M then (if s.to = -1 ∨ M < s.to then M else s.to) - s.frm else 0
def minutesS (l : List Sy) (M : Int) : Int := l.foldl (fun n s => n + minS M s) 0
theorem minutes_snoc (A : List Sy) (s : Sy) (M : Int) : minutesS (A ++ [s]) M = minutesS A M + minS M s := by simp [minutesS]
theorem min_step {s : Sy} {M : Int} (ht : s.frm < s.to ∨ s.to = -1) : minS (M + 1) s - minS M s = if s.frm ≤ M ∧ (s.to = -1 ∨ M < s.to) then 1 else 0 := by
  unfold minS
  repeat' split
  all_goals omega
/-- How many of the first minutes have a zone. -/
def cntS (l : List Sy) : Nat → Int
  | 0 => 0
  | M + 1 => cntS l M + if 0 < zoneS l (M : Int) then 1 else 0
theorem minutes_step_shut {A : List Sy} (h : Shut A) (M : Int) : minutesS A (M + 1) - minutesS A M = if 0 < zoneS A M then 1 else 0 := by
  suffices H : ∀ k : List Sy, Shut k.reverse → minutesS k.reverse (M + 1) - minutesS k.reverse M = if 0 < zoneS k.reverse M then 1 else 0 by
    have := H A.reverse
    rw [List.reverse_reverse] at this
    exact this h
  intro k
  induction k with
  | nil => intro _; rfl
  | cons s k ih =>
    intro h
    rw [List.reverse_cons] at h ⊢
    obtain ⟨h1, h2, h3, h4, h5⟩ := shut_snoc.1 h
    have h6 := ih h1
    have h7 := min_step (M := M) (.inl h4)
    rw [minutes_snoc, minutes_snoc]
    by_cases hf : M < s.frm
    · rw [zone_ahead hf]
      rw [if_neg (by omega)] at h7
      omega
    · rw [zone_last h1 h5 (by omega)]
      rw [zone_shut h1 h5 (by omega), if_neg (by decide)] at h6
      by_cases hc : s.to = -1 ∨ M < s.to
      · rw [if_pos hc, if_pos (by omega)]
        rw [if_pos ⟨by omega, hc⟩] at h7
        omega
      · rw [if_neg hc, if_neg (by decide)]
        rw [if_neg (fun h8 => hc h8.2)] at h7
        omega
theorem minutes_step {l : List Sy} (h : Right l) (M : Int) : minutesS l (M + 1) - minutesS l M = if 0 < zoneS l M then 1 else 0 := by
  rcases ends_of l with rfl | ⟨A, s, rfl⟩
  · rfl
  · obtain ⟨h1, h2, h3, h4, h5⟩ := right_snoc.1 h
    have h6 := minutes_step_shut h1 M
    have h7 := min_step (M := M) h4
    rw [minutes_snoc, minutes_snoc]
    by_cases hf : M < s.frm
    · rw [zone_ahead hf]
      rw [if_neg (by omega)] at h7
      omega
    · rw [zone_last h1 h5 (by omega)]
      rw [zone_shut h1 h5 (by omega), if_neg (by decide)] at h6
      by_cases hc : s.to = -1 ∨ M < s.to
      · rw [if_pos hc, if_pos (by omega)]
        rw [if_pos ⟨by omega, hc⟩] at h7
        omega
      · rw [if_neg hc, if_neg (by decide)]
        rw [if_neg (fun h8 => hc h8.2)] at h7
        omega
theorem minutes_zero {l : List Sy} (h : Right l) : minutesS l 0 = 0 := by
  have h0 : ∀ s ∈ l, minS 0 s = 0 := by
    intro s hs
    obtain ⟨i, hi⟩ := List.mem_iff_getElem?.1 hs
    have := (h i s hi).2.1
    unfold minS
    rw [if_neg (by omega)]
  clear h
  suffices H : ∀ k : List Sy, (∀ s ∈ k.reverse, minS 0 s = 0) → minutesS k.reverse 0 = 0 by
    have := H l.reverse
    rw [List.reverse_reverse] at this
    exact this h0
  intro k
  induction k with
  | nil => intro _; rfl
  | cons s k ih =>
    intro h
    rw [List.reverse_cons] at h ⊢
    rw [minutes_snoc, ih (fun t ht => h t (by simp at ht; simp [ht])), h s (by simp)]
    rfl
/-- Stays up to a minute have as many minutes as there were with a zone. -/
theorem minutes_cnt {l : List Sy} (h : Right l) : ∀ M : Nat, minutesS l (M : Int) = cntS l M
  | 0 => minutes_zero h
  | M + 1 => by
    have h1 := minutes_cnt h M
    have h2 := minutes_step h (M : Int)
    rw [cntS, ← h1]
    rw [show ((M + 1 : Nat) : Int) = (M : Int) + 1 by omega]
    omega
end Go.Proofs.Ytkfmkchonlajpaa.Sy
