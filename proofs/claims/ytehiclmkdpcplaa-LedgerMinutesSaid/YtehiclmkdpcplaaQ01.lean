/- Zones, products, and lists in the order of a number: plain words. No condition but those written. Slices that read as lists of bytes; append onto a slice that the call owns; small words for all walks. No condition but those written. Numbers as bytes, in plain words: what is written, what is read; no condition but those written. Blocks of memory: what has turned, what lies where, bytes that are kept. No condition but those written. Slices of structs: their cells as a list, rows that a call owns. No condition but those written. Maps from whole numbers to things of one form, as lists in the order of that number. No condition but those written. -/
import Derived.Test.YtehiclmkdpcplaaChecked
import Derived.WalkKit
import Derived.WalkLawsBesides
import Derived.LoopTactic
import Derived.KernelRfl
import Derived.Lib.Hide
import Derived.BigQuiet
import Derived.Deep.QuietTactic
import Derived.Below
import Derived.Maps.AppendAt
import Derived.Laws.OwnMore
import Derived.Lib.AppendZeros
import Derived.OwnWalk
import Derived.Deep.Onto
import Derived.Deep.AppendLies
import Derived.DataShut
import Derived.Deep.OwnRows
import Derived.IntWalk
import Derived.Laws.BitsAllLaws
import Derived.Laws.BitsLemmas
import Derived.Lib.SlKeysI
import Derived.Maps.OwnSet
import Derived.Maps.Views
import Derived.Maps.Ext
namespace Go.Proofs.Ytehiclmkdpcplaa.Ms

structure Zn where
  id : Int
  worst : Int
  gap : Int
  room : Int
  dock : Bool
  ajar : Int
structure Pd where
  id : Int
  limit : Int
  budget : Int
theorem zn_ext {a b : Zn} (h : a.id = b.id ∧ a.worst = b.worst ∧ a.gap = b.gap ∧ a.room = b.room ∧ a.dock = b.dock ∧ a.ajar = b.ajar) : a = b := by
  obtain ⟨a1, a2, a3, a4, a5, a6⟩ := a
  obtain ⟨b1, b2, b3, b4, b5, b6⟩ := b
  obtain ⟨rfl, rfl, rfl, rfl, rfl, rfl⟩ := h
  rfl
theorem pd_ext {a b : Pd} (h : a.id = b.id ∧ a.limit = b.limit ∧ a.budget = b.budget) : a = b := by
  obtain ⟨a1, a2, a3⟩ := a
  obtain ⟨b1, b2, b3⟩ := b
  obtain ⟨rfl, rfl, rfl⟩ := h
  rfl
instance : DecidableEq Zn := fun a b =>
  if h : a.id = b.id ∧ a.worst = b.worst ∧ a.gap = b.gap ∧ a.room = b.room ∧ a.dock = b.dock ∧ a.ajar = b.ajar then isTrue (zn_ext h) else isFalse (fun e => h (by subst e; exact ⟨rfl, rfl, rfl, rfl, rfl, rfl⟩))
instance : DecidableEq Pd := fun a b =>
  if h : a.id = b.id ∧ a.limit = b.limit ∧ a.budget = b.budget then isTrue (pd_ext h) else isFalse (fun e => h (by subst e; exact ⟨rfl, rfl, rfl⟩))
/-- Is a number from one up to another one? -/
def ft (n a b : Int) : Bool := decide (a ≤ n) && decide (n ≤ b)
theorem ft_t {n a b : Int} : ft n a b = true ↔ a ≤ n ∧ n ≤ b := by simp [ft]
theorem ft_f {n a b : Int} : ft n a b = false ↔ ¬ (a ≤ n ∧ n ≤ b) := by rw [← ft_t]; simp
/-- May a zone, or a product, be? -/
def rightZ (z : Zn) : Bool := ft z.id 1 16 && (ft z.worst (-1099511627776) 1099511627776 && (ft z.gap 0 1048575 && (ft z.room 0 1048576 && ft z.ajar 0 1048575)))
def rightP (p : Pd) : Bool := ft p.id 1 16 && (ft p.limit (-1099511627776) 1099511627776 && ft p.budget 0 4611686018427387904)

section
variable {α : Type} (key : α → Int)
/-- In order. -/
def Ord (S : List α) : Prop := S.Pairwise fun a b => key a < key b
/-- The one of a number. -/
def findK (n : Int) : List α → Option α
  | [] => none
  | y :: l => if key y = n then some y else findK n l
/-- One more, ahead of the first one that is greater. -/
def ins (x : α) : List α → List α
  | [] => [x]
  | y :: l => if key x < key y then x :: y :: l else y :: ins x l
/-- One is added: the error, and what there is then. -/
def addL (S : List α) (x : α) : Nat × List α := match findK key (key x) S with | some _ => (6, S) | none => (0, ins key x S)
variable {key}
theorem find_some {n : Int} {y : α} : ∀ {S : List α}, findK key n S = some y → y ∈ S ∧ key y = n
  | [], h => by simp [findK] at h
  | z :: l, h => by
    unfold findK at h
    by_cases hz : key z = n
    · rw [if_pos hz] at h
      obtain rfl := Option.some.inj h
      exact ⟨by simp, hz⟩
    · rw [if_neg hz] at h
      obtain ⟨h1, h2⟩ := find_some h
      exact ⟨List.mem_cons_of_mem _ h1, h2⟩
theorem find_none {n : Int} : ∀ {S : List α}, findK key n S = none ↔ ∀ y ∈ S, key y ≠ n
  | [] => by simp [findK]
  | z :: l => by
    unfold findK
    by_cases hz : key z = n
    · rw [if_pos hz]
      simp [hz]
    · rw [if_neg hz, find_none]
      simp [hz]
theorem ord_key {S : List α} (h : Ord key S) {x y : α} (hx : x ∈ S) (hy : y ∈ S) (e : key x = key y) : x = y := by
  obtain ⟨i, hi, rfl⟩ := List.mem_iff_getElem.1 hx
  obtain ⟨j, hj, rfl⟩ := List.mem_iff_getElem.1 hy
  rcases Nat.lt_trichotomy i j with hij | hij | hij
  · have := List.pairwise_iff_getElem.1 h i j hi hj hij
    omega
  · subst hij
    rfl
  · have := List.pairwise_iff_getElem.1 h j i hj hi hij
    omega
theorem find_mem {S : List α} (h : Ord key S) {y : α} (hy : y ∈ S) : findK key (key y) S = some y := by
  cases hf : findK key (key y) S with
  | none => exact absurd rfl (find_none.1 hf y hy)
  | some z =>
    obtain ⟨h1, h2⟩ := find_some hf
    rw [ord_key h h1 hy h2]
theorem ins_mem {x y : α} : ∀ {S : List α}, y ∈ ins key x S ↔ y = x ∨ y ∈ S
  | [] => by simp [ins]
  | z :: l => by
    unfold ins
    by_cases hz : key x < key z
    · rw [if_pos hz]
      simp
    · rw [if_neg hz, List.mem_cons, ins_mem, List.mem_cons]
      constructor
      · rintro (h | h | h)
        · exact .inr (.inl h)
        · exact .inl h
        · exact .inr (.inr h)
      · rintro (h | h | h)
        · exact .inr (.inl h)
        · exact .inl h
        · exact .inr (.inr h)
theorem ins_len {x : α} : ∀ {S : List α}, (ins key x S).length = S.length + 1
  | [] => rfl
  | z :: l => by
    unfold ins
    by_cases hz : key x < key z
    · rw [if_pos hz]
      simp
    · rw [if_neg hz, List.length_cons, ins_len, List.length_cons]
theorem ins_ord {x : α} : ∀ {S : List α}, Ord key S → (∀ y ∈ S, key y ≠ key x) → Ord key (ins key x S)
  | [], _, _ => by simp [ins, Ord]
  | z :: l, h, hn => by
    obtain ⟨h1, h2⟩ := List.pairwise_cons.1 h
    unfold ins
    by_cases hz : key x < key z
    · rw [if_pos hz]
      refine List.pairwise_cons.2 ⟨fun y hy => ?_, h⟩
      rcases List.mem_cons.1 hy with rfl | hy
      · exact hz
      · have := h1 y hy
        omega
    · rw [if_neg hz]
      refine List.pairwise_cons.2 ⟨fun y hy => ?_, ins_ord h2 (fun y hy => hn y (List.mem_cons_of_mem _ hy))⟩
      rcases ins_mem.1 hy with rfl | hy
      · have := hn z (by simp)
        omega
      · exact h1 y hy
/-- Ahead of the first one that is greater: those that were gone through. -/
theorem ins_here {x y : α} : ∀ {A : List α} (B : List α), (∀ z ∈ A, ¬ key x < key z) → key x < key y → ins key x (A ++ y :: B) = A ++ x :: y :: B
  | [], B, _, hy => by
    rw [List.nil_append, ins, if_pos hy]
    rfl
  | z :: A, B, hA, hy => by
    rw [List.cons_append, ins, if_neg (hA z (by simp)), ins_here B (fun u hu => hA u (List.mem_cons_of_mem _ hu)) hy]
    rfl
theorem ins_more {x : α} {B : List α} : ∀ {A : List α}, (∃ z ∈ A, key x < key z) → ins key x (A ++ B) = ins key x A ++ B
  | [], h => by simp at h
  | z :: A, h => by
    by_cases hz : key x < key z
    · rw [List.cons_append, ins, if_pos hz, ins, if_pos hz]
      rfl
    · obtain ⟨u, hu, hu2⟩ := h
      rcases List.mem_cons.1 hu with rfl | hu
      · exact absurd hu2 hz
      · rw [List.cons_append, ins, if_neg hz, ins, if_neg hz, ins_more ⟨u, hu, hu2⟩]
        rfl
theorem ins_end {x : α} : ∀ {A : List α}, (∀ z ∈ A, ¬ key x < key z) → ins key x A = A ++ [x]
  | [], _ => rfl
  | z :: A, h => by
    rw [ins, if_neg (h z (by simp)), ins_end (fun u hu => h u (List.mem_cons_of_mem _ hu))]
    rfl
theorem add_ord {S : List α} {x : α} (h : Ord key S) : Ord key (addL key S x).2 := by
  unfold addL
  cases hf : findK key (key x) S with
  | some y => exact h
  | none => exact ins_ord h (find_none.1 hf)
theorem add_len {S : List α} {x : α} : (addL key S x).2.length ≤ S.length + 1 := by
  unfold addL
  cases hf : findK key (key x) S with
  | some y => exact Nat.le_succ _
  | none => exact Nat.le_of_eq ins_len
theorem ord_nil : Ord key [] := List.Pairwise.nil
/-- How far one has gone: what has been laid down, and whether the new one is in it. -/
def Far (x : α) (S : List α) (k : Nat) (done : Bool) (out : List α) : Prop :=
  (∀ y ∈ S.take k, key y ≠ key x) ∧ ((done = true ∧ out = ins key x (S.take k) ∧ ∃ z ∈ S.take k, key x < key z) ∨ (done = false ∧ out = S.take k ∧ ∀ z ∈ S.take k, ¬ key x < key z))
theorem far_start (x : α) (S : List α) : Far (key := key) x S 0 false [] := ⟨by simp, .inr ⟨rfl, rfl, by simp⟩⟩
theorem take_one {S : List α} {k : Nat} {y : α} (hy : S[k]? = some y) : S.take (k + 1) = S.take k ++ [y] := by rw [List.take_add_one, hy]; rfl
theorem far_done {x : α} {S : List α} {k : Nat} {out : List α} {y : α} (h : Far (key := key) x S k true out) (hy : S[k]? = some y) (hn : key y ≠ key x) : Far (key := key) x S (k + 1) true (out ++ [y]) := by
  obtain ⟨h1, h2 | ⟨h2, _⟩⟩ := h
  · refine ⟨fun z hz => ?_, .inl ⟨rfl, ?_, ?_⟩⟩
    · rw [take_one hy] at hz
      rcases List.mem_append.1 hz with hz | hz
      · exact h1 z hz
      · rw [List.mem_singleton.1 hz]
        exact hn
    · rw [take_one hy, ins_more h2.2.2, h2.2.1]
    · obtain ⟨z, hz, hl⟩ := h2.2.2
      exact ⟨z, by rw [take_one hy]; exact List.mem_append_left _ hz, hl⟩
  · cases h2
theorem far_here {x : α} {S : List α} {k : Nat} {out : List α} {y : α} (h : Far (key := key) x S k false out) (hy : S[k]? = some y) (hl : key x < key y) : Far (key := key) x S (k + 1) true (out ++ [x] ++ [y]) := by
  obtain ⟨h1, ⟨h2, _⟩ | h2⟩ := h
  · cases h2
  · refine ⟨fun z hz => ?_, .inl ⟨rfl, ?_, ?_⟩⟩
    · rw [take_one hy] at hz
      rcases List.mem_append.1 hz with hz | hz
      · exact h1 z hz
      · rw [List.mem_singleton.1 hz]
        omega
    · rw [take_one hy, ins_here [] h2.2.2 hl, h2.2.1]
      simp
    · exact ⟨y, by rw [take_one hy]; simp, hl⟩
theorem far_not {x : α} {S : List α} {k : Nat} {out : List α} {y : α} (h : Far (key := key) x S k false out) (hy : S[k]? = some y) (hn : key y ≠ key x) (hl : ¬ key x < key y) : Far (key := key) x S (k + 1) false (out ++ [y]) := by
  obtain ⟨h1, ⟨h2, _⟩ | h2⟩ := h
  · cases h2
  · refine ⟨fun z hz => ?_, .inr ⟨rfl, by rw [take_one hy, h2.2.1], fun z hz => ?_⟩⟩
    · rw [take_one hy] at hz
      rcases List.mem_append.1 hz with hz | hz
      · exact h1 z hz
      · rw [List.mem_singleton.1 hz]
        exact hn
    · rw [take_one hy] at hz
      rcases List.mem_append.1 hz with hz | hz
      · exact h2.2.2 z hz
      · rw [List.mem_singleton.1 hz]
        exact hl
/-- Gone through whole. -/
theorem far_end {x : α} {S : List α} {out : List α} {done : Bool} (h : Far (key := key) x S S.length done out) : addL key S x = (0, if done then out else out ++ [x]) := by
  obtain ⟨h1, h2⟩ := h
  rw [List.take_length] at h1 h2
  unfold addL
  rw [find_none.2 h1]
  simp only
  rcases h2 with ⟨rfl, h3, _⟩ | ⟨rfl, h3, h4⟩
  · rw [if_pos rfl, h3]
  · rw [if_neg (by decide), h3, ins_end h4]
theorem far_twice {x : α} {S : List α} {k : Nat} {done : Bool} {out : List α} {y : α} (_ : Far (key := key) x S k done out) (hy : S[k]? = some y) (he : key y = key x) : addL key S x = (6, S) := by
  unfold addL
  cases hf : findK key (key x) S with
  | some z => rfl
  | none => exact absurd he (find_none.1 hf y (List.mem_of_getElem? hy))
theorem far_len {x : α} {S : List α} {k : Nat} {done : Bool} {out : List α} (h : Far (key := key) x S k done out) : out.length ≤ k + 1 := by
  have ht : (S.take k).length ≤ k := by simp; omega
  obtain ⟨_, ⟨_, h2, _⟩ | ⟨_, h2, _⟩⟩ := h
  · rw [h2, ins_len]
    omega
  · rw [h2]
    omega
theorem far_len0 {x : α} {S : List α} {k : Nat} {out : List α} (h : Far (key := key) x S k false out) : out.length ≤ k := by
  have ht : (S.take k).length ≤ k := by simp; omega
  obtain ⟨_, ⟨h2, _⟩ | ⟨_, h2, _⟩⟩ := h
  · cases h2
  · rw [h2]
    omega
/-- Looked for, one by one. -/
theorem find_skip {n : Int} {S : List α} {k : Nat} (h : ∀ y ∈ S.take k, key y ≠ n) : findK key n S = findK key n (S.drop k) := by
  induction S generalizing k with
  | nil => simp
  | cons z l ih =>
    cases k with
    | zero => rfl
    | succ k =>
      rw [List.take_succ_cons] at h
      rw [findK, if_neg (h z (by simp)), List.drop_succ_cons]
      exact ih (fun y hy => h y (List.mem_cons_of_mem _ hy))
theorem find_at {n : Int} {S : List α} {k : Nat} {y : α} (h : ∀ y ∈ S.take k, key y ≠ n) (hy : S[k]? = some y) (he : key y = n) : findK key n S = some y := by
  rw [find_skip h]
  have : S.drop k = y :: S.drop (k + 1) := by
    obtain ⟨hk, rfl⟩ := List.getElem?_eq_some_iff.1 hy
    exact List.drop_eq_getElem_cons hk
  rw [this, findK, if_pos he]
theorem not_next {n : Int} {S : List α} {k : Nat} {y : α} (h : ∀ y ∈ S.take k, key y ≠ n) (hy : S[k]? = some y) (he : key y ≠ n) : ∀ z ∈ S.take (k + 1), key z ≠ n := by
  intro z hz
  rw [take_one hy] at hz
  rcases List.mem_append.1 hz with hz | hz
  · exact h z hz
  · rw [List.mem_singleton.1 hz]
    exact he
end
/-- A zone, a product, is added. -/
def addZ (S : List Zn) (z : Zn) : Nat × List Zn := if rightZ z then addL Zn.id S z else (1, S)
def addP (S : List Pd) (p : Pd) : Nat × List Pd := if rightP p then addL Pd.id S p else (1, S)
def zn0 : Zn := ⟨0, 0, 0, 0, false, 0⟩
def pd0 : Pd := ⟨0, 0, 0⟩
/-- The one of a number, or the error. -/
def getK {α : Type} (o : Option α) (z : α) : α × Nat := match o with | some x => (x, 0) | none => (z, 5)
theorem addZ_ord {S : List Zn} {z : Zn} (h : Ord Zn.id S) : Ord Zn.id (addZ S z).2 := by
  unfold addZ
  split
  · exact add_ord h
  · exact h
theorem addP_ord {S : List Pd} {p : Pd} (h : Ord Pd.id S) : Ord Pd.id (addP S p).2 := by
  unfold addP
  split
  · exact add_ord h
  · exact h
theorem addZ_len {S : List Zn} {z : Zn} : (addZ S z).2.length ≤ S.length + 1 := by
  unfold addZ
  split
  · exact add_len
  · exact Nat.le_succ _
theorem addP_len {S : List Pd} {p : Pd} : (addP S p).2.length ≤ S.length + 1 := by
  unfold addP
  split
  · exact add_len
  · exact Nat.le_succ _
end Go.Proofs.Ytehiclmkdpcplaa.Ms

namespace Go.Proofs.Ytehiclmkdpcplaa
open Go.RowKit

theorem ret_int {k : IntKind} {a b : Int} (h : a = b) : Ending.returned (.int k a) = .returned (.int k b) := by rw [h]
theorem ret_bool {a b : Bool} (h : a = b) : Ending.returned (.bool a) = .returned (.bool b) := by rw [h]
theorem eq_nat (a b : Nat) : ((a : Int) == (b : Int)) = decide (a = b) := by rw [Bool.eq_iff_iff, beq_iff_eq, decide_eq_true_iff]; omega
theorem still {P : Program} {f : FuncId} {args : Array Value} {w : World} {n : Nat} {v : Value}
    (h : Calls P f args (w.drewN n) fun e w' => e = .returned v ∧ w.drewN n = w') : Calls P f args (w.drewN n) fun e w'' => e = .returned v ∧ ∃ m, w'' = w.drewN m :=
  h.mono fun _ _ ⟨he, hm⟩ => ⟨he, n, hm.symm⟩
theorem still2 {P : Program} {f : FuncId} {args : Array Value} {w : World} {n : Nat} {v : Value}
    (h : Calls P f args (w.drewN n) fun e w' => e = .returned v ∧ ∃ m, w' = (w.drewN n).drewN m) : Calls P f args (w.drewN n) fun e w'' => e = .returned v ∧ ∃ m, w'' = w.drewN m :=
  h.mono fun _ _ ⟨he, m, hm⟩ => ⟨he, n + m, by rw [hm, World.drewN_drewN]⟩
theorem then_ {a b c : World} (h : Below a.heap.size a b) (k : Below b.heap.size b c) : Below a.heap.size a c := h.trans (k.mono h.size)
theorem below_drewN {B : Nat} {a w : World} (h : Below B a w) (n : Nat) : Below B a (w.drewN n) := ⟨h.os, h.tape, h.output, h.size, h.block⟩
theorem size_alloc (w : World) (o : Obj) : w.heap.size ≤ (w.alloc o).heap.size := by simp
/-- A slice that reads as a list of bytes, nil let in. -/
def At (w : World) (p : Option Addr) (n : Nat) (l : List Nat) : Prop :=
  l.length = n ∧ (∀ x ∈ l, x < 256) ∧ (0 < n → ∃ b o, p = some ⟨b, o, none⟩ ∧ ∀ j, j < n → w.cell? ⟨b, o + j, none⟩ = some (.int .u8 ((l.getD j 0 : Nat) : Int)))
theorem getD_lt {l : List Nat} (h : ∀ x ∈ l, x < 256) (k : Nat) : l.getD k 0 < 256 := by
  by_cases hk : k < l.length
  · rw [List.getD_eq_getElem?_getD, List.getElem?_eq_getElem hk]
    exact h _ (List.getElem_mem hk)
  · rw [List.getD_eq_getElem?_getD, List.getElem?_eq_none (by omega)]
    decide
theorem At.take {w : World} {p : Option Addr} {n : Nat} {l : List Nat} (h : At w p n l) (m : Nat) (hm : m ≤ n) : At w p m (l.take m) := by
  obtain ⟨hl, hb, hc⟩ := h
  refine ⟨by rw [List.length_take]; omega, fun x hx => hb x (List.mem_of_mem_take hx), fun h0 => ?_⟩
  obtain ⟨b, o, hp, hj⟩ := hc (by omega)
  refine ⟨b, o, hp, fun j hjm => ?_⟩
  rw [hj j (by omega), List.getD_eq_getElem?_getD, List.getD_eq_getElem?_getD, List.getElem?_take_of_lt hjm]
theorem At.keep {w w' : World} {p : Option Addr} {n : Nat} {l : List Nat} (h : At w p n l) (hb : Below w.heap.size w w') : At w' p n l := by
  obtain ⟨hl, hx, hc⟩ := h
  refine ⟨hl, hx, fun h0 => ?_⟩
  obtain ⟨b, o, hp, hj⟩ := hc h0
  refine ⟨b, o, hp, fun j hjm => ?_⟩
  have hlt : b < w.heap.size := World.block_lt_of_cell? w _ (hj j hjm)
  exact (hb.cell (p := ⟨b, o + j, none⟩) hlt).trans (hj j hjm)
theorem At.drewN {w : World} {p : Option Addr} {n : Nat} {l : List Nat} (h : At w p n l) (m : Nat) : At (w.drewN m) p n l := h
theorem at_nil (w : World) : At w none 0 [] := ⟨rfl, by simp, fun h => absurd h (by decide)⟩
/-- The bytes of a list, as cells. -/
def bys (l : List Nat) : List Value := l.map fun x => Value.int .u8 ((x : Nat) : Int)
theorem bys_length (l : List Nat) : (bys l).length = l.length := by simp [bys]
theorem bys_append (l m : List Nat) : bys (l ++ m) = bys l ++ bys m := by simp [bys]
theorem bys_at {l : List Nat} {j : Nat} (h : j < l.length) : (bys l)[j]? = some (.int .u8 ((l.getD j 0 : Nat) : Int)) := by
  simp [bys, List.getElem?_map, List.getD_eq_getElem?_getD, List.getElem?_eq_getElem h]
theorem bys_one (l : List Nat) : ∀ u ∈ bys l, u.oneCell' = true := by
  intro u hu
  obtain ⟨x, _, rfl⟩ := List.mem_map.1 hu
  rfl
theorem add_none (b o j : Nat) : (⟨b, o, none⟩ : Addr).add j = ⟨b, o + j, none⟩ := by
  unfold Addr.add
  split
  · rename_i h
    subst h
    rfl
  · rfl
theorem info5 : (Try.prog.info? 5).map (fun i => (i.zero, i.size, i.bytes)) = some (some (.int .u8 0), 1, 1) := by kernel_rfl
/-- A slice that the call owns reads as a list of bytes. -/
theorem at_own {w : World} {B : Nat} {v : Value} {n : Nat} {l : List Nat} (hl : l.length = n) (hx : ∀ x ∈ l, x < 256) (h : w.ownsRow B 5 1 v n (bys l)) :
    ∃ q c, v = .slice q n c ∧ n ≤ c ∧ At w q n l := by
  have h' := h
  rcases h.2 with ⟨rfl, rfl⟩ | ⟨g, cap, cur, rfl, _, _, hnc, _⟩
  · exact ⟨none, 0, rfl, Nat.le_refl _, hl, hx, fun h0 => absurd h0 (by omega)⟩
  · refine ⟨_, cap, rfl, hnc, hl, hx, fun _ => ⟨g, 0, rfl, fun j hj => ?_⟩⟩
    rw [Nat.zero_add, h'.cellAt j (by omega), bys_at (by omega)]
theorem at_pair (w : World) (u v : Nat) (hu : u < 256) (hv : v < 256) : At (w.alloc (.cells #[.int .u8 (u : Int), .int .u8 (v : Int)] 5)) (some ⟨w.heap.size, 0, none⟩) 2 [u, v] := by
  refine ⟨rfl, ?_, fun _ => ⟨w.heap.size, 0, rfl, fun j hj => ?_⟩⟩
  · intro x hx
    simp only [List.mem_cons, List.not_mem_nil, or_false] at hx
    rcases hx with rfl | rfl
    · exact hu
    · exact hv
  · rw [Nat.zero_add, cell_of_row _ w.heap.size j _ 5 (0, 0) (heap_alloc_new w _)]
    match j, hj with
    | 0, _ => rfl
    | 1, _ => rfl
theorem own_cell {w : World} {B g n cap : Nat} {t : List Nat} (h : w.ownsRow B 5 1 (.slice (some ⟨g, 0, none⟩) n cap) n (bys t)) (hl : t.length = n) {i : Nat} (hi : i < n) :
    w.cell? ⟨g, i, none⟩ = some (.int .u8 ((t.getD i 0 : Nat) : Int)) := by
  rw [h.cellAt i (by omega), bys_at (by omega)]
theorem own_store {w : World} {B g n cap : Nat} {t : List Nat} (h : w.ownsRow B 5 1 (.slice (some ⟨g, 0, none⟩) n cap) n (bys t)) (i u : Nat) :
    (w.setCell ⟨g, i, none⟩ (.int .u8 (u : Int))).ownsRow B 5 1 (.slice (some ⟨g, 0, none⟩) n cap) n (bys (t.set i u)) := by
  have e : bys (t.set i u) = (bys t).set i (.int .u8 (u : Int)) := by simp [bys, List.map_set]
  rw [e]
  exact (h.stored i (.int .u8 (u : Int))).1
theorem made_none (w : World) : (w.alloc (.cells #[] 5)).ownsRow w.heap.size 5 1 (.slice (some ⟨w.heap.size, 0, none⟩) 0 0) 0 [] := World.ownsRow_made w #[] 0 (Nat.le_refl _) (Nat.zero_le _) rfl
theorem next_below {w wr w2 : World} {v : Value} {n : Nat} {xs : List Value} (hown : wr.ownsRow w.heap.size 5 1 v n xs) (hg : wr.grownBy w2 v.ownBlock) (hb : Below w.heap.size w wr) : Below w.heap.size w w2 :=
  hb.grown hg hb.size (fun k hk => (hown.lt k hk).1)
theorem next_cell {w wr w2 : World} {v : Value} {n : Nat} {xs : List Value} {B o : Nat} {x : Value} (hB : B < w.heap.size) (hown : wr.ownsRow w.heap.size 5 1 v n xs) (hg : wr.grownBy w2 v.ownBlock)
    (h : wr.cell? ⟨B, o, none⟩ = some x) : w2.cell? ⟨B, o, none⟩ = some x :=
  hg.cell h (fun e => by have := (hown.lt B e.symm).1; omega)
/-- What the walk is told of a list of whole numbers that came in: it is nil; or it leads to a row of 'cap' cells, the numbers 'zs'. -/
def IsRow (k : IntKind) (w : World) (a : Option Addr) (len cap : Nat) (zs : List Int) : Prop :=
  (a = none ∧ len = 0 ∧ cap = 0 ∧ zs = []) ∨
  ∃ x, a = some x ∧ len ≤ cap ∧ cap ≤ maxLen ∧ zs.length = cap ∧ (∀ i, i < zs.length → w.cell? (x.add i) = some (.int k (zs.getD i 0))) ∧ ∀ n ∈ zs, (Lit.int k n).wf = true
theorem nat_byte {n : Int} (h : (Lit.int .u8 n).wf = true) : 0 ≤ n ∧ n < 256 := by
  have h1 := (Lit.wf_int_iff .u8 n).1 h
  have e1 : IntKind.u8.min = 0 := by decide
  have e2 : IntKind.u8.max = 255 := by decide
  rw [e1, e2] at h1
  omega
/-- A row of bytes that came in reads as a list of bytes. -/
theorem at_row {w : World} {a : Option Addr} {len cap : Nat} {zs : List Int} (h : IsRow .u8 w a len cap zs) : len ≤ cap ∧ len ≤ 9223372036854775807 ∧ ∃ l, At w a len l := by
  rcases h with ⟨rfl, rfl, rfl, rfl⟩ | ⟨x, rfl, hl, hm, hz, hcell, hwf⟩
  · exact ⟨Nat.le_refl _, Nat.zero_le _, [], at_nil w⟩
  · unfold maxLen at hm
    refine ⟨hl, by omega, (zs.map Int.toNat).take len, ?_, ?_, fun h0 => ?_⟩
    · rw [List.length_take, List.length_map]; omega
    · intro y hy
      obtain ⟨z, hz, rfl⟩ := List.mem_map.1 (List.mem_of_mem_take hy)
      have := nat_byte (hwf z hz)
      omega
    · obtain ⟨bk, off, spot⟩ := x
      have hc0 := hcell 0 (by omega)
      have hspot : spot = none := by simpa [Addr.add] using World.cell?_spot hc0
      subst hspot
      refine ⟨bk, off, rfl, fun j hj => ?_⟩
      have hj' : j < zs.length := by omega
      have h := hcell j hj'
      rw [add_none] at h
      rw [h, List.getD_eq_getElem?_getD, List.getD_eq_getElem?_getD, List.getElem?_take_of_lt hj, List.getElem?_map, List.getElem?_eq_getElem hj']
      have hb := nat_byte (hwf _ (List.getElem_mem hj'))
      simp only [Option.getD_some, Option.map_some]
      rw [Int.toNat_of_nonneg hb.1]
theorem nat_word {n : Int} (h : (Lit.int .u16 n).wf = true) : ∃ m : Nat, n = (m : Int) ∧ m < 65536 := by
  have h1 := (Lit.wf_int_iff .u16 n).1 h
  have e1 : IntKind.u16.min = 0 := by decide
  have e2 : IntKind.u16.max = 65535 := by decide
  rw [e1, e2] at h1
  exact ⟨n.toNat, by omega, by omega⟩
end Go.Proofs.Ytehiclmkdpcplaa

namespace Go.Proofs.Ytehiclmkdpcplaa.Oc

/-- The lowest k bytes of a number, the highest byte first. -/
def be : Nat → Nat → List Nat
  | 0, _ => []
  | k + 1, n => (n / 256 ^ k % 256) :: be k n
theorem be_zero (n : Nat) : be 0 n = [] := rfl
theorem be_succ (k n : Nat) : be (k + 1) n = (n / 256 ^ k % 256) :: be k n := rfl
theorem be_length (k n : Nat) : (be k n).length = k := by
  induction k with
  | zero => rfl
  | succ k ih => simp [be, ih]
theorem be_lt (k n : Nat) : ∀ x ∈ be k n, x < 256 := by
  induction k with
  | zero => simp [be]
  | succ k ih =>
    intro x hx
    rcases List.mem_cons.1 (by simpa [be] using hx) with rfl | h
    · exact Nat.mod_lt _ (by decide)
    · exact ih x h
/-- The number of bytes, behind a number that is there. -/
def valo : Nat → List Nat → Nat
  | u, [] => u
  | u, x :: l => valo (256 * u + x) l
def val (l : List Nat) : Nat := valo 0 l
theorem valo_nil (u : Nat) : valo u [] = u := rfl
theorem valo_cons (u x : Nat) (l : List Nat) : valo u (x :: l) = valo (256 * u + x) l := rfl
theorem valo_append (u : Nat) (l m : List Nat) : valo u (l ++ m) = valo (valo u l) m := by
  induction l generalizing u with
  | nil => rfl
  | cons x l ih => simp [valo, ih]
theorem val_snoc (l : List Nat) (x : Nat) : val (l ++ [x]) = 256 * val l + x := by
  unfold val
  rw [valo_append]
  rfl
theorem valo_be (k u n : Nat) : valo u (be k n) = 256 ^ k * u + n % 256 ^ k := by
  induction k generalizing u with
  | zero => simp [be, valo, Nat.mod_one]
  | succ k ih =>
    rw [be_succ, valo_cons, ih]
    have h1 : n % 256 ^ (k + 1) = n % 256 ^ k + 256 ^ k * (n / 256 ^ k % 256) := by
      rw [Nat.pow_succ, Nat.mod_mul]
    rw [h1, Nat.pow_succ, Nat.mul_add, ← Nat.mul_assoc]
    omega
theorem val_be {k n : Nat} (h : n < 256 ^ k) : val (be k n) = n := by
  unfold val
  rw [valo_be, Nat.mul_zero, Nat.zero_add, Nat.mod_eq_of_lt h]
theorem valo_lt (l : List Nat) (hl : ∀ x ∈ l, x < 256) (u : Nat) : valo u l < 256 ^ l.length * (u + 1) := by
  induction l generalizing u with
  | nil => simp [valo]
  | cons x l ih =>
    have hx := hl x (by simp)
    have h := ih (fun y hy => hl y (by simp [hy])) (256 * u + x)
    rw [valo_cons, List.length_cons, Nat.pow_succ, Nat.mul_assoc]
    exact Nat.lt_of_lt_of_le h (Nat.mul_le_mul_left _ (by omega))
theorem val_lt {l : List Nat} (hl : ∀ x ∈ l, x < 256) : val l < 256 ^ l.length := by
  have := valo_lt l hl 0
  simpa [val] using this
theorem pow_le {j k : Nat} (h : j ≤ k) : 256 ^ j ≤ 256 ^ k := Nat.pow_le_pow_right (by decide) h
theorem take_snoc {l : List Nat} {k : Nat} (h : k < l.length) : l.take (k + 1) = l.take k ++ [l.getD k 0] := by
  rw [List.take_succ_eq_append_getElem h, List.getD_eq_getElem?_getD, List.getElem?_eq_getElem h]
  rfl
theorem val_take {l : List Nat} {k : Nat} (h : k < l.length) : val (l.take (k + 1)) = 256 * val (l.take k) + l.getD k 0 := by
  rw [take_snoc h, val_snoc]
theorem mem_take {l : List Nat} (hl : ∀ x ∈ l, x < 256) (k : Nat) : ∀ x ∈ l.take k, x < 256 := fun x hx => hl x (List.mem_of_mem_take hx)
theorem mem_drop {l : List Nat} (hl : ∀ x ∈ l, x < 256) (k : Nat) : ∀ x ∈ l.drop k, x < 256 := fun x hx => hl x (List.mem_of_mem_drop hx)
theorem mem_app {l m : List Nat} (hl : ∀ x ∈ l, x < 256) (hm : ∀ x ∈ m, x < 256) : ∀ x ∈ l ++ m, x < 256 := fun x hx => by
  rcases List.mem_append.1 hx with h | h
  · exact hl x h
  · exact hm x h
theorem val_take_lt {l : List Nat} (hl : ∀ x ∈ l, x < 256) {k m : Nat} (h : k ≤ m) : val (l.take k) < 256 ^ m :=
  Nat.lt_of_lt_of_le (val_lt (mem_take hl k)) (pow_le (by rw [List.length_take]; omega))

/-- Whether a number fits in a size that is one. -/
def fitB (n : Nat) (size : Int) : Bool := decide (1 ≤ size ∧ size ≤ 8 ∧ n < 256 ^ size.toNat)
theorem fit_of {n : Nat} {size : Int} (h : fitB n size = true) : 1 ≤ size ∧ size ≤ 8 ∧ n < 256 ^ size.toNat := by simpa [fitB] using h
theorem fit_mk {n : Nat} {size : Int} (h1 : 1 ≤ size) (h2 : size ≤ 8) (h3 : n < 256 ^ size.toNat) : fitB n size = true := by simp [fitB, h1, h2, h3]
theorem fit_no1 {n : Nat} {size : Int} (h : ¬ (1 ≤ size ∧ size ≤ 8)) : fitB n size = false := by
  simp only [fitB, decide_eq_false_iff_not]
  omega
theorem fit_no2 {n : Nat} {size : Int} (h : ¬ n < 256 ^ size.toNat) : fitB n size = false := by
  simp only [fitB, decide_eq_false_iff_not]
  exact fun hh => h hh.2.2
/-- What a writer has behind a number: bytes, or the error. -/
def wnum (s : Option (List Nat)) (n : Nat) (size : Int) : Option (List Nat) :=
  match s with
  | none => none
  | some l => if fitB n size then some (l ++ be size.toNat n) else none
theorem wnum_none (n : Nat) (size : Int) : wnum none n size = none := rfl
theorem wnum_yes {n : Nat} {size : Int} (l : List Nat) (h : fitB n size = true) : wnum (some l) n size = some (l ++ be size.toNat n) := by simp [wnum, h]
theorem wnum_no {n : Nat} {size : Int} (l : List Nat) (h : fitB n size = false) : wnum (some l) n size = none := by simp [wnum, h]
def wrun (s : Option (List Nat)) (b : List Nat) : Option (List Nat) :=
  match wnum s b.length 4 with
  | none => none
  | some l => some (l ++ b)
/-- A thing. -/
structure Th where
  kind : Nat
  n : Nat
  size : Int
  run : List Nat
def wth (s : Option (List Nat)) (t : Th) : Option (List Nat) :=
  if t.kind % 4 = 0 then wnum s t.n t.size else if t.kind % 4 = 1 then wnum s t.n 8 else if t.kind % 4 = 2 then wnum s (t.n % 2) 1 else wrun s t.run
def wall (s : Option (List Nat)) (l : List Th) : Option (List Nat) := l.foldl wth s

/-- What a reader has: an error, and bytes that are still to be read (none behind an error). -/
def rnum (s : Nat × List Nat) (size : Int) : Nat × (Nat × List Nat) :=
  if s.1 ≠ 0 then (0, s) else if ¬ (1 ≤ size ∧ size ≤ 8) then (0, (1, [])) else if s.2.length < size.toNat then (0, (2, [])) else (val (s.2.take size.toNat), (0, s.2.drop size.toNat))
def rbool (s : Nat × List Nat) : Bool × (Nat × List Nat) := (decide ((rnum s 1).1 = 1), if (rnum s 1).1 ≤ 1 then (rnum s 1).2 else (2, []))
def rrun (s : Nat × List Nat) : List Nat × (Nat × List Nat) :=
  if (rnum s 4).2.1 ≠ 0 then ([], (rnum s 4).2) else if (rnum s 4).2.2.length < (rnum s 4).1 then ([], (2, [])) else ((rnum s 4).2.2.take (rnum s 4).1, (0, (rnum s 4).2.2.drop (rnum s 4).1))
def rdone (s : Nat × List Nat) : Nat := if 0 < s.2.length then 2 else s.1
/-- How many there are, at most, behind what was read. -/
theorem rnum_len (s : Nat × List Nat) (m : Int) : (rnum s m).2.2.length ≤ s.2.length := by
  unfold rnum
  split
  · exact Nat.le_refl _
  · split
    · exact Nat.zero_le _
    · split
      · exact Nat.zero_le _
      · simp
theorem rnum_mem {s : Nat × List Nat} (h : ∀ x ∈ s.2, x < 256) (m : Int) : ∀ x ∈ (rnum s m).2.2, x < 256 := by
  unfold rnum
  split
  · exact h
  · split
    · simp
    · split
      · simp
      · exact mem_drop h _
theorem rnum_lt {s : Nat × List Nat} (h : ∀ x ∈ s.2, x < 256) (k : Nat) (m : Int) (hm : m = (k : Int)) : (rnum s m).1 < 256 ^ k := by
  subst hm
  unfold rnum
  split
  · exact Nat.pow_pos (by decide)
  · split
    · exact Nat.pow_pos (by decide)
    · split
      · exact Nat.pow_pos (by decide)
      · exact val_take_lt h (by simp)
theorem rnum_err {s : Nat × List Nat} (m : Int) (h : s.1 ≠ 0 → s.2 = []) : (rnum s m).2.1 ≠ 0 → (rnum s m).2.2 = [] := by
  unfold rnum
  split
  · exact h
  · split
    · exact fun _ => rfl
    · split
      · exact fun _ => rfl
      · exact fun h0 => absurd rfl h0
/-- No thing. -/
def t0 : Th := ⟨0, 0, 0, []⟩
/-- How many bytes there are in runs. -/
def tot (l : List Th) : Nat := (l.map fun t => t.run.length).sum
theorem tot_append (l m : List Th) : tot (l ++ m) = tot l + tot m := by simp [tot]
theorem tot_take (l : List Th) (k : Nat) : tot (l.take k) ≤ tot l := by
  have h := tot_append (l.take k) (l.drop k)
  rw [List.take_append_drop] at h
  omega
theorem take_th {l : List Th} {k : Nat} (h : k < l.length) : l.take (k + 1) = l.take k ++ [l.getD k t0] := by
  rw [List.take_succ_eq_append_getElem h, List.getD_eq_getElem?_getD, List.getElem?_eq_getElem h]
  rfl
theorem tot_succ {l : List Th} {k : Nat} (h : k < l.length) : tot (l.take (k + 1)) = tot (l.take k) + (l.getD k t0).run.length := by
  rw [take_th h, tot_append]
  simp [tot]
def fitsB (l : List Th) : Bool := decide (l.length ≤ 100 ∧ tot l ≤ 1000)
theorem fits_of {l : List Th} (h : fitsB l = true) : l.length ≤ 100 ∧ tot l ≤ 1000 := by simpa [fitsB] using h
theorem wall_succ (s : Option (List Nat)) {l : List Th} {k : Nat} (h : k < l.length) : wall s (l.take (k + 1)) = wth (wall s (l.take k)) (l.getD k t0) := by
  rw [take_th h]
  simp [wall, List.foldl_append]
theorem wnum_len {s : Option (List Nat)} {m : Nat} (h : ∀ l, s = some l → l.length ≤ m) (n : Nat) (size : Int) : ∀ l, wnum s n size = some l → l.length ≤ m + 8 := by
  intro l hl
  match s, h, hl with
  | none, _, hl => cases hl
  | some l', h, hl =>
    have h' := h l' rfl
    unfold wnum at hl
    by_cases hf : fitB n size = true
    · obtain ⟨_, h2, _⟩ := fit_of hf
      simp only [hf, if_true, Option.some.injEq] at hl
      subst hl
      simp [be_length]
      omega
    · simp [hf] at hl
theorem wth_len {s : Option (List Nat)} {m : Nat} (h : ∀ l, s = some l → l.length ≤ m) (t : Th) : ∀ l, wth s t = some l → l.length ≤ m + 8 + t.run.length := by
  intro l hl
  unfold wth at hl
  split at hl
  · have := wnum_len h _ _ l hl
    omega
  · split at hl
    · have := wnum_len h _ _ l hl
      omega
    · split at hl
      · have := wnum_len h _ _ l hl
        omega
      · unfold wrun at hl
        split at hl
        · cases hl
        · rename_i l' hw
          have := wnum_len h _ _ l' hw
          injection hl with hl
          subst hl
          simp
          omega
theorem wall_len (l : List Th) (k : Nat) (hk : k ≤ l.length) : ∀ b, wall (some []) (l.take k) = some b → b.length ≤ 8 * k + tot (l.take k) := by
  induction k with
  | zero =>
    intro b hb
    simp [wall] at hb
    subst hb
    simp
  | succ k ih =>
    intro b hb
    have hlt : k < l.length := by omega
    rw [wall_succ _ hlt] at hb
    have := wth_len (ih (by omega)) _ b hb
    rw [tot_succ hlt]
    omega
end Go.Proofs.Ytehiclmkdpcplaa.Oc

namespace Go.Proofs.Ytehiclmkdpcplaa
open Go.RowKit

/-- Only blocks of a set have turned, and new ones. -/
structure Turn (S : Nat → Prop) (w w' : World) : Prop where
  os : w'.os = w.os
  tape : w'.tape = w.tape
  output : w'.output = w.output
  size : w.heap.size ≤ w'.heap.size
  block : ∀ k, k < w.heap.size → ¬ S k → w'.heap[k]? = w.heap[k]?
theorem Turn.refl (S : Nat → Prop) (w : World) : Turn S w w := ⟨rfl, rfl, rfl, Nat.le_refl _, fun _ _ _ => rfl⟩
theorem Turn.trans {S S' : Nat → Prop} {a b c : World} (h : Turn S a b) (k : Turn S' b c) (hs : ∀ i, S' i → S i ∨ a.heap.size ≤ i) : Turn S a c :=
  ⟨k.os.trans h.os, k.tape.trans h.tape, k.output.trans h.output, Nat.le_trans h.size k.size, fun i hi hn =>
    (k.block i (Nat.lt_of_lt_of_le hi h.size) (fun hs' => (hs i hs').elim hn (fun h1 => by omega))).trans (h.block i hi hn)⟩
theorem Turn.mono {S S' : Nat → Prop} {a b : World} (h : Turn S a b) (hs : ∀ i, i < a.heap.size → S i → S' i) : Turn S' a b :=
  ⟨h.os, h.tape, h.output, h.size, fun i hi hn => h.block i hi (fun x => hn (hs i hi x))⟩
theorem Turn.drewN {S : Nat → Prop} {a w : World} (h : Turn S a w) (n : Nat) : Turn S a (w.drewN n) := ⟨h.os, h.tape, h.output, h.size, h.block⟩
theorem Turn.drew {S : Nat → Prop} {a w : World} (h : Turn S a w) : Turn S a w.drew := ⟨h.os, h.tape, h.output, h.size, h.block⟩
theorem Turn.alloc {S : Nat → Prop} {a w : World} (h : Turn S a w) (o : Obj) : Turn S a (w.alloc o) :=
  ⟨h.os, h.tape, h.output, Nat.le_trans h.size (by simp), fun i hi hne => (Below.heap_alloc w o i (Nat.lt_of_lt_of_le hi h.size)).trans (h.block i hi hne)⟩
theorem Turn.setCell {S : Nat → Prop} {a w : World} (h : Turn S a w) {p : Addr} (hp : S p.block ∨ a.heap.size ≤ p.block) (u : Value) : Turn S a (w.setCell p u) :=
  ⟨h.os, h.tape, h.output, by simpa [World.setCell] using h.size, fun i hi hne => (Below.heap_setCell w p u i (by
    rintro rfl
    rcases hp with hp | hp
    · exact hne hp
    · omega)).trans (h.block i hi hne)⟩
theorem Turn.grown {S : Nat → Prop} {a w w' : World} {row : Option Nat} (h : Turn S a w) (hg : w.grownBy w' row) (hr : ∀ k, row = some k → S k ∨ a.heap.size ≤ k) : Turn S a w' :=
  ⟨hg.os.trans h.os, hg.tape.trans h.tape, hg.output.trans h.output, Nat.le_trans h.size hg.size, fun i hi hn =>
    (hg.block i (Nat.lt_of_lt_of_le hi h.size) (fun e => (hr i e.symm).elim hn (fun h1 => by omega))).trans (h.block i hi hn)⟩
theorem Turn.of_below {S : Nat → Prop} {w w' : World} (h : Below w.heap.size w w') : Turn S w w' := ⟨h.os, h.tape, h.output, h.size, fun i hi _ => h.block i hi⟩
theorem Turn.below {S : Nat → Prop} {B : Nat} {a w w' : World} (h : Turn S w w') (hb : Below B a w) (hB : B ≤ w.heap.size) (hs : ∀ i, S i → B ≤ i) : Below B a w' :=
  hb.trans ⟨h.os, h.tape, h.output, h.size, fun i hi => h.block i (by omega) (fun hx => by have := hs i hx; omega)⟩
theorem turn_drewN (w : World) (S : Nat → Prop) (n : Nat) : Turn S w (w.drewN n) := (Turn.refl S w).drewN n
/-- The cells that lie in a block: all of them, and none is frozen. -/
def Lies (w : World) (g : Nat) (t : TypeId) (cs : Array Value) : Prop := w.heap[g]? = some (.cells cs t (0, 0))
/-- Another world with that block has them, too: what all the rest leans on. -/
theorem Lies.like {w w' : World} {g : Nat} {t : TypeId} {cs : Array Value} (h : Lies w g t cs) (e : w'.heap[g]? = w.heap[g]?) : Lies w' g t cs := by
  unfold Lies
  rw [e]
  exact h
theorem Lies.lt {w : World} {g : Nat} {t : TypeId} {cs : Array Value} (h : Lies w g t cs) : g < w.heap.size :=
  (Array.getElem?_eq_some_iff.1 h).1
theorem Lies.type {w : World} {g : Nat} {t t' : TypeId} {cs cs' : Array Value} (h : Lies w g t cs) (h' : Lies w g t' cs') : t = t' := by
  have e := Option.some.inj (Eq.trans (Eq.symm h) h')
  injection e
theorem Lies.cell {w : World} {g : Nat} {t : TypeId} {cs : Array Value} (h : Lies w g t cs) (i : Nat) : w.cell? ⟨g, i, none⟩ = cs[i]? := cell_of_row w g i cs t (0, 0) h
theorem Lies.frozen {w : World} {g : Nat} {t : TypeId} {cs : Array Value} (h : Lies w g t cs) (i : Nat) : w.frozen? ⟨g, i, none⟩ = false := by
  simp [World.frozen?, show w.heap[g]? = _ from h]
theorem Lies.new (w : World) (t : TypeId) (cs : Array Value) : Lies (w.alloc (.cells cs t)) w.heap.size t cs := heap_alloc_new w _
theorem Lies.drewN {w : World} {g : Nat} {t : TypeId} {cs : Array Value} (h : Lies w g t cs) (n : Nat) : Lies (w.drewN n) g t cs := h.like rfl
theorem Lies.alloc {w : World} {g : Nat} {t : TypeId} {cs : Array Value} (h : Lies w g t cs) (o : Obj) : Lies (w.alloc o) g t cs := h.like (Below.heap_alloc w o g h.lt)
theorem Lies.below {w w' : World} {B g : Nat} {t : TypeId} {cs : Array Value} (h : Lies w g t cs) (hb : Below B w w') (hg : g < B) : Lies w' g t cs := h.like (hb.block g hg)
theorem Lies.grown {w w' : World} {g : Nat} {t : TypeId} {cs : Array Value} {row : Option Nat} (h : Lies w g t cs) (hb : w.grownBy w' row) (hg : some g ≠ row) : Lies w' g t cs := h.like (hb.block g h.lt hg)
theorem Lies.turn {w w' : World} {g : Nat} {t : TypeId} {cs : Array Value} {S : Nat → Prop} (h : Lies w g t cs) (ht : Turn S w w') (hg : ¬ S g) : Lies w' g t cs := h.like (ht.block g h.lt hg)
theorem Lies.set_ {w : World} {g : Nat} {t : TypeId} {cs : Array Value} (h : Lies w g t cs) (i : Nat) (u : Value) : Lies (w.setCell ⟨g, i, none⟩ u) g t (cs.setIfInBounds i u) := by
  have e : w.heap[g]? = some (.cells cs t (0, 0)) := h
  show (w.setCell ⟨g, i, none⟩ u).heap[g]? = _
  simp [World.setCell, Array.getElem?_modify, e]
/-- A row of another type is another block. -/
theorem own_blk_ne {w : World} {g : Nat} {t : TypeId} {cs : Array Value} {base : Nat} {e : TypeId} {size n : Nat} {v : Value} {xs : List Value} (h : w.ownsRow base e size v n xs) (hg : Lies w g t cs) (hne : e ≠ t) : v.ownBlock ≠ some g := by
  intro he
  rcases h.2 with ⟨hv, _⟩ | ⟨b, cap, cur, hv, _, hh, _⟩
  · rw [hv] at he
    cases he
  · rw [hv] at he
    injection he with he
    simp only at he
    subst he
    exact hne (Lies.type (cs := cur) hh hg)
/-- A row that a call owns is kept where its block is. -/
theorem own_turn {w w' : World} {S : Nat → Prop} {base : Nat} {e : TypeId} {size n : Nat} {v : Value} {xs : List Value} (h : w.ownsRow base e size v n xs) (ht : Turn S w w') (hs : ∀ k, v.ownBlock = some k → ¬ S k) : w'.ownsRow base e size v n xs := by
  refine ⟨h.1, ?_⟩
  rcases h.2 with h0 | ⟨g, cap, cur, rfl, hb, hh, r⟩
  · exact .inl h0
  · exact .inr ⟨g, cap, cur, rfl, hb, (Lies.turn hh ht (hs g rfl)), r⟩
/-- Bytes are kept where their block is. -/
theorem At.turn {w w' : World} {S : Nat → Prop} {p : Option Addr} {n : Nat} {l : List Nat} (h : At w p n l) (ht : Turn S w w') (hs : ∀ a, p = some a → ¬ S a.block) : At w' p n l := by
  obtain ⟨hl, hx, hc⟩ := h
  refine ⟨hl, hx, fun h0 => ?_⟩
  obtain ⟨b, o, hp, hj⟩ := hc h0
  refine ⟨b, o, hp, fun j hjm => ?_⟩
  have hlt : b < w.heap.size := World.block_lt_of_cell? w _ (hj j hjm)
  exact (World.cell?_of_block (a := ⟨b, o + j, none⟩) (ht.block b hlt (hs _ hp))).trans (hj j hjm)
theorem At.turn' {w w' : World} {S : Nat → Prop} {p : Option Addr} {n : Nat} {l : List Nat} (h : At w p n l) (ht : Turn S w w') (hs : 0 < n → ∀ a, p = some a → ¬ S a.block) : At w' p n l := by
  by_cases hn : 0 < n
  · exact h.turn ht (hs hn)
  · exact ⟨h.1, h.2.1, fun h0 => absurd h0 hn⟩
/-- A row that the call owns has a block of those that are the call's, and one that is there. -/
theorem own_lt {w : World} {base : Nat} {e : TypeId} {size n : Nat} {v : Value} {xs : List Value} (h : w.ownsRow base e size v n xs) {k : Nat} (hk : v.ownBlock = some k) : base ≤ k ∧ k < w.heap.size := by
  have := h.lt k hk
  omega
theorem own_slice {w : World} {base : Nat} {e : TypeId} {size n : Nat} {v : Value} {xs : List Value} (h : w.ownsRow base e size v n xs) : ∃ q d, v = .slice q n d := by
  rcases h.2 with ⟨rfl, rfl⟩ | ⟨g, cap, cur, rfl, _⟩
  · exact ⟨none, 0, rfl⟩
  · exact ⟨_, _, rfl⟩
theorem bys_snoc (l : List Nat) (x : Nat) : bys l ++ [.int .u8 (x : Int)] = bys (l ++ [x]) := by simp [bys]
/-- A block whose cells are no bytes. -/
def NoU8 (cs : Array Value) : Prop := ∀ (i : Nat) (x : Int), cs[i]? ≠ some (Value.int .u8 x)
theorem noU8_2 (p : Option Addr) (n c : Nat) (e : Int) : NoU8 #[.slice p n c, .int .i64 e] := by
  intro i x h
  match i with
  | 0 => simp at h
  | 1 => simp at h
  | i + 2 => simp at h
theorem noU8_3 (p : Option Addr) (n c : Nat) (a e : Int) : NoU8 #[.slice p n c, .int .i64 a, .int .i64 e] := by
  intro i x h
  match i with
  | 0 => simp at h
  | 1 => simp at h
  | 2 => simp at h
  | i + 3 => simp at h
theorem At.ne_lies {w : World} {p : Option Addr} {n : Nat} {l : List Nat} {g : Nat} {t : TypeId} {cs : Array Value} (h : At w p n l) (hb : Lies w g t cs) (hc : NoU8 cs) (hn : 0 < n) : ∀ a, p = some a → a.block ≠ g := by
  rintro a rfl hg
  obtain ⟨b, o, e, hj⟩ := h.2.2 hn
  injection e with e
  subst e
  have h0 := hj 0 hn
  simp only at hg
  subst hg
  rw [Nat.add_zero, hb.cell o] at h0
  exact hc o _ h0
/-- Each block of a set is one whose cells are no bytes. -/
def Plain (w : World) (S : Nat → Prop) : Prop := ∀ k, S k → ∃ t cs, Lies w k t cs ∧ NoU8 cs
theorem At.plain {w w' : World} {S : Nat → Prop} {p : Option Addr} {n : Nat} {l : List Nat} (h : At w p n l) (ht : Turn S w w') (hs : Plain w S) : At w' p n l :=
  h.turn' ht (fun hn a ha hS => by
    obtain ⟨t, cs, hb, hc⟩ := hs _ hS
    exact h.ne_lies hb hc hn a ha rfl)
theorem At.cut {w : World} {p : Option Addr} {n : Nat} {l : List Nat} (h : At w p n l) {k : Nat} (hk : k ≤ n) : At w (p.map fun x => x.add k) (n - k) (l.drop k) := by
  obtain ⟨hl, hx, hc⟩ := h
  refine ⟨by rw [List.length_drop, hl], Oc.mem_drop hx k, fun h0 => ?_⟩
  obtain ⟨b, o, rfl, hj⟩ := hc (by omega)
  refine ⟨b, o + k, by simp [add_none], fun j hjn => ?_⟩
  have e := hj (k + j) (by omega)
  rw [← Nat.add_assoc] at e
  rw [e, List.getD_eq_getElem?_getD, List.getD_eq_getElem?_getD, List.getElem?_drop]
theorem At.none_left {w : World} {p : Option Addr} {l : List Nat} (h : l.length = 0) : At w p 0 l := by
  obtain rfl : l = [] := List.eq_nil_of_length_eq_zero h
  exact ⟨rfl, by simp, fun h0 => absurd h0 (by decide)⟩
/-- Bytes that are handed out: they read as a list. -/
def Out (w : World) (v : Value) (l : List Nat) : Prop := ∃ q d, v = .slice q l.length d ∧ l.length ≤ d ∧ At w q l.length l
theorem out_nil (w : World) : Out w (.slice none 0 0) [] := ⟨none, 0, rfl, Nat.le_refl _, at_nil w⟩
theorem at_one (w : World) (u : Nat) (hu : u < 256) : At (w.alloc (.cells #[.int .u8 (u : Int)] 5)) (some ⟨w.heap.size, 0, none⟩) 1 [u] := by
  refine ⟨rfl, ?_, fun _ => ⟨w.heap.size, 0, rfl, fun j hj => ?_⟩⟩
  · intro x hx
    rw [List.mem_singleton.1 hx]
    exact hu
  · rw [Nat.zero_add, cell_of_row _ w.heap.size j _ 5 (0, 0) (heap_alloc_new w _)]
    match j, hj with
    | 0, _ => rfl
/-- No bytes: wherever they lie. -/
theorem at_zero (w : World) (q : Option Addr) : At w q 0 [] := ⟨rfl, by simp, fun h => absurd h (by decide)⟩
theorem alloc_below (w : World) (o : Obj) : Below w.heap.size w (w.alloc o) := (Below.refl _ w).alloc (Nat.le_refl _) o
theorem made_bytes (m : Nat) : (madeCells #[Value.int .u8 0] m).toList = bys (List.replicate m 0) := by
  apply List.ext_getElem
  · simp [madeCells, bys]
  · intro i h1 h2
    have h : i < m := by simpa [bys] using h2
    simp [madeCells, bys, Nat.mod_one]
/-- A byte of a number, as the walk has it. -/
theorem byte_of (n j : Nat) : ∃ x : Nat, x = n / 256 ^ j % 256 ∧ IntKind.u8.wrap ((n : Int) / 2 ^ (8 * (j : Int)).toNat) = (x : Int) := by
  refine ⟨_, rfl, ?_⟩
  have e : (8 * (j : Int)).toNat = 8 * j := by omega
  rw [e, IntKind.wrap_u8]
  have e2 : (256 : Nat) ^ j = 2 ^ (8 * j) := by rw [Nat.pow_mul]
  rw [e2]
  have e3 : ((n : Int) / 2 ^ (8 * j)) = ((n / 2 ^ (8 * j) : Nat) : Int) := by
    rw [Int.natCast_ediv]
    simp
  rw [e3]
  generalize n / 2 ^ (8 * j) = q
  omega
theorem u64_join (u x : Nat) (hu : u < 72057594037927936) (hx : x < 256) : bits .or .u64 ((u : Int) * 256) (x : Int) = ((256 * u + x : Nat) : Int) := by
  rw [show (u : Int) * 256 = ((256 * u : Nat) : Int) by omega, u64_or_nat _ _ (by omega) (by omega), nat_join 8 _ _ (by omega) (by omega)]
theorem u64_of_wrap (n : Nat) (h : n < 18446744073709551616) : IntKind.u64.wrap (wrap64 (n : Int)) = (n : Int) := by
  rw [IntKind.wrap_u64]
  unfold wrap64
  omega
theorem bit_of (n : Nat) : (if ((n : Int) % 2 == 1) = true then 1 else 0) = n % 2 := by
  by_cases h : n % 2 = 1
  · rw [if_pos (by simp; omega), h]
  · rw [if_neg (by simp; omega)]
    omega
theorem list_of {α : Type} (d : α) (Q : Nat → α → Prop) (n : Nat) (h : ∀ i, i < n → ∃ t, Q i t) : ∃ l : List α, l.length = n ∧ ∀ i, i < n → Q i (l.getD i d) := by
  induction n with
  | zero => exact ⟨[], rfl, fun i hi => by omega⟩
  | succ n ih =>
    obtain ⟨l, hl, hq⟩ := ih (fun i hi => h i (by omega))
    obtain ⟨t, ht⟩ := h n (by omega)
    refine ⟨l ++ [t], by simp [hl], fun i hi => ?_⟩
    by_cases hin : i < n
    · have := hq i hin
      rw [List.getD_eq_getElem?_getD] at this ⊢
      rwa [List.getElem?_append_left (by omega)]
    · obtain rfl : i = n := by omega
      rw [List.getD_eq_getElem?_getD, List.getElem?_append_right (by omega), hl, Nat.sub_self]
      exact ht
theorem nat_u64 {n : Int} (h : (Lit.int .u64 n).wf = true) : 0 ≤ n ∧ n < 18446744073709551616 := by
  have h1 := (Lit.wf_int_iff .u64 n).1 h
  have e1 : IntKind.u64.min = 0 := by decide
  have e2 : IntKind.u64.max = 18446744073709551615 := by decide
  rw [e1, e2] at h1
  omega
end Go.Proofs.Ytehiclmkdpcplaa

namespace Go.Proofs.Ytehiclmkdpcplaa
open Go.RowKit

section
variable {α : Type} {k : Nat} {enc : α → List Value}
theorem flat_len (hk : ∀ x, (enc x).length = k) (l : List α) : (l.flatMap enc).length = l.length * k := by
  induction l with
  | nil => simp
  | cons x l ih => rw [List.flatMap_cons, List.length_append, ih, hk, List.length_cons, Nat.add_mul, Nat.one_mul, Nat.add_comm]
theorem flat_at (hk : ∀ x, (enc x).length = k) : ∀ (l : List α) (j i : Nat) (x : α), l[j]? = some x → i < k → (l.flatMap enc)[j * k + i]? = (enc x)[i]? := by
  intro l
  induction l with
  | nil =>
    intro j i x h
    simp at h
  | cons y l ih =>
    intro j i x h hi
    cases j with
    | zero =>
      simp only [List.getElem?_cons_zero, Option.some.injEq] at h
      subst h
      rw [List.flatMap_cons, Nat.zero_mul, Nat.zero_add, List.getElem?_append_left (by rw [hk]; exact hi)]
    | succ j =>
      rw [List.getElem?_cons_succ] at h
      rw [List.flatMap_cons, List.getElem?_append_right (by rw [hk, Nat.add_mul]; omega), hk, ← ih j i x h hi]
      congr 1
      rw [Nat.add_mul]
      omega
theorem flat_set (hk : ∀ x, (enc x).length = k) : ∀ (l : List α) (j i : Nat) (x x' : α) (u : Value), l[j]? = some x → i < k → enc x' = (enc x).set i u → (l.set j x').flatMap enc = (l.flatMap enc).set (j * k + i) u := by
  intro l
  induction l with
  | nil =>
    intro j i x x' u h
    simp at h
  | cons y l ih =>
    intro j i x x' u h hi he
    cases j with
    | zero =>
      simp only [List.getElem?_cons_zero, Option.some.injEq] at h
      subst h
      rw [List.set_cons_zero, List.flatMap_cons, List.flatMap_cons, he, Nat.zero_mul, Nat.zero_add, List.set_append_left _ _ (by rw [hk]; exact hi)]
    | succ j =>
      rw [List.getElem?_cons_succ] at h
      rw [List.set_cons_succ, List.flatMap_cons, List.flatMap_cons, ih j i x x' u h hi he, List.set_append_right _ _ (by rw [hk, Nat.add_mul]; omega), hk]
      congr 2
      rw [Nat.add_mul]
      omega
/-- A slice of structs that reads as a list, nil let in. -/
def Rw (k : Nat) (enc : α → List Value) (w : World) (p : Option Addr) (n : Nat) (l : List α) : Prop :=
  l.length = n ∧ (0 < n → ∃ b o, p = some ⟨b, o, none⟩ ∧ ∀ j x, l[j]? = some x → ∀ i, i < k → w.cell? ⟨b, o + j * k + i, none⟩ = (enc x)[i]?)
theorem rw_nil (w : World) : Rw k enc w none 0 [] := ⟨rfl, fun h => absurd h (by decide)⟩
theorem rw_zero (w : World) (p : Option Addr) : Rw k enc w p 0 [] := ⟨rfl, fun h => absurd h (by decide)⟩
/-- A row that the call owns reads as its list. -/
theorem rw_own (hk : ∀ x, (enc x).length = k) {w : World} {B : Nat} {e : TypeId} {v : Value} {l : List α} (h : w.ownsRow B e k v l.length (l.flatMap enc)) :
    ∃ q c, v = .slice q l.length c ∧ l.length ≤ c ∧ Rw k enc w q l.length l := by
  have h' := h
  rcases h.2 with ⟨rfl, h0⟩ | ⟨g, cap, cur, rfl, _, _, hnc, _⟩
  · exact ⟨none, 0, by rw [h0], by omega, rfl, fun h1 => by omega⟩
  · refine ⟨_, cap, rfl, hnc, rfl, fun _ => ⟨g, 0, rfl, fun j x hx i hi => ?_⟩⟩
    have hj : j < l.length := (List.getElem?_eq_some_iff.1 hx).1
    rw [Nat.zero_add, h'.cellAt (j * k + i) (by
      have : (j + 1) * k ≤ l.length * k := Nat.mul_le_mul_right k hj
      rw [Nat.add_mul] at this
      omega), flat_at hk l j i x hx hi]
theorem Rw.like {w w' : World} {p : Option Addr} {n : Nat} {l : List α} (h : Rw k enc w p n l) (hk : ∀ x, (enc x).length = k) (he : ∀ b i, b < w.heap.size → (∀ a, p = some a → a.block = b) → w'.cell? ⟨b, i, none⟩ = w.cell? ⟨b, i, none⟩) : Rw k enc w' p n l := by
  refine ⟨h.1, fun h0 => ?_⟩
  obtain ⟨b, o, rfl, hj⟩ := h.2 h0
  refine ⟨b, o, rfl, fun j x hx i hi => ?_⟩
  have hc := hj j x hx i hi
  have hlt : b < w.heap.size := by
    have hi' : i < (enc x).length := by rw [hk]; exact hi
    rw [List.getElem?_eq_getElem hi'] at hc
    exact World.block_lt_of_cell? w _ hc
  rw [he b _ hlt (fun a ha => by cases ha; rfl)]
  exact hc
theorem Rw.keep {w w' : World} {p : Option Addr} {n : Nat} {l : List α} (h : Rw k enc w p n l) (hk : ∀ x, (enc x).length = k) (hb : Below w.heap.size w w') : Rw k enc w' p n l :=
  h.like hk (fun b i hlt _ => hb.cell (p := ⟨b, i, none⟩) hlt)
theorem Rw.turn {w w' : World} {S : Nat → Prop} {p : Option Addr} {n : Nat} {l : List α} (h : Rw k enc w p n l) (hk : ∀ x, (enc x).length = k) (ht : Turn S w w') (hs : ∀ a, p = some a → ¬ S a.block) (hn : p ≠ none) : Rw k enc w' p n l := by
  refine h.like hk (fun b i hlt hp => World.cell?_of_block (a := ⟨b, i, none⟩) (ht.block b hlt (fun hS => ?_)))
  cases p with
  | none => exact hn rfl
  | some a =>
    have := hp a rfl
    subst this
    exact hs a rfl hS
theorem Rw.drewN {w : World} {p : Option Addr} {n : Nat} {l : List α} (h : Rw k enc w p n l) (m : Nat) : Rw k enc (w.drewN m) p n l := h
theorem Rw.take {w : World} {p : Option Addr} {n : Nat} {l : List α} (h : Rw k enc w p n l) (m : Nat) (hm : m ≤ n) : Rw k enc w p m (l.take m) := by
  refine ⟨by rw [List.length_take, h.1]; omega, fun h0 => ?_⟩
  obtain ⟨b, o, hp, hj⟩ := h.2 (by omega)
  refine ⟨b, o, hp, fun j x hx i hi => hj j x ?_ i hi⟩
  rw [List.getElem?_take] at hx
  split at hx
  · exact hx
  · cases hx
/-- An element's cell in a row that the call owns. -/
theorem row_cell (hk : ∀ x, (enc x).length = k) {w : World} {B g cap n : Nat} {e : TypeId} {l : List α} (h : w.ownsRow B e k (.slice (some ⟨g, 0, none⟩) n cap) n (l.flatMap enc)) (hl : l.length = n) {j : Nat} {x : α} (hx : l[j]? = some x) {i : Nat} (hi : i < k) :
    w.cell? ⟨g, j * k + i, none⟩ = (enc x)[i]? := by
  have hj : j < l.length := (List.getElem?_eq_some_iff.1 hx).1
  subst hl
  rw [h.cellAt (j * k + i) (by
    have : (j + 1) * k ≤ l.length * k := Nat.mul_le_mul_right k hj
    rw [Nat.add_mul] at this
    omega), flat_at hk l j i x hx hi]
/-- A store into an element's cell. -/
theorem row_store (hk : ∀ x, (enc x).length = k) {w : World} {B g cap n : Nat} {e : TypeId} {l : List α} (h : w.ownsRow B e k (.slice (some ⟨g, 0, none⟩) n cap) n (l.flatMap enc)) {j : Nat} {x x' : α} (hx : l[j]? = some x) {i : Nat} (hi : i < k) {u : Value} (he : enc x' = (enc x).set i u) :
    (w.setCell ⟨g, j * k + i, none⟩ u).ownsRow B e k (.slice (some ⟨g, 0, none⟩) n cap) n ((l.set j x').flatMap enc) := by
  rw [flat_set hk l j i x x' u hx hi he]
  exact (h.stored (j * k + i) u).1
theorem flat_snoc (l : List α) (x : α) : l.flatMap enc ++ enc x = (l ++ [x]).flatMap enc := by simp
end
/-- What of memory is an object's that holds one slice: its block, and its slice's. -/
def Feet (g : Nat) (v : Value) (k : Nat) : Prop := k = g ∨ v.ownBlock = some k
theorem own_some {w : World} {B : Nat} {e : TypeId} {k n : Nat} {v : Value} {xs : List Value} (h : w.ownsRow B e k v n xs) (hn : 0 < n) : ∃ b c, v = .slice (some ⟨b, 0, none⟩) n c ∧ B ≤ b ∧ b < w.heap.size ∧ n ≤ c := by
  rcases h.2 with ⟨_, h0⟩ | ⟨g, cap, cur, rfl, hb, hh, hc, _⟩
  · omega
  · exact ⟨g, cap, rfl, hb, (Array.getElem?_eq_some_iff.1 hh).1, hc⟩
end Go.Proofs.Ytehiclmkdpcplaa

namespace Go.Proofs.Ytehiclmkdpcplaa
open Go.RowKit Go.Maps

namespace Ms
theorem lawI : Keyed Try.prog 3 := int_keyed Try.underlying3
def In64 (m : Int) : Prop := (Lit.int .i64 m).wf = true
theorem key_of {n : Int} (h : In64 n) : keyOf Try.prog 3 (.int .i64 n) = some (.int .i64 n) := keyOf_int_mk Try.underlying3 h
theorem in64_of {m : Int} (h0 : -9223372036854775808 ≤ m) (h1 : m ≤ 9223372036854775807) : In64 m := WalkArith.wf_i64 ⟨h0, h1⟩
theorem key_lit (n : Int) : WideAt.IsKeyLit (.int .i64 n) := trivial
theorem lit_ne {a b : Int} (h : a ≠ b) : Lit.int .i64 a ≠ Lit.int .i64 b := fun e => by
  injection e with _ e
  exact h e
/-- A form of things: the value of each, and what it reads as. -/
structure Form (α : Type) where
  enc : α → Value
  dat : α → DataW Unit
  inj : ∀ {x y}, enc x = enc y → x = y
  dinj : ∀ {x y}, dat x = dat y → x = y
section
variable {α : Type} (Fm : Form α)
open Classical in
/-- How a value reads. -/
noncomputable def rdF (v : Value) : Option (DataW Unit × List MemPlace) := if h : ∃ x, Fm.enc x = v then some (Fm.dat h.choose, []) else none
variable {Fm}
theorem rd_mk (x : α) : rdF Fm (Fm.enc x) = some (Fm.dat x, []) := by
  have h : ∃ y, Fm.enc y = Fm.enc x := ⟨x, rfl⟩
  unfold rdF
  rw [dif_pos h, Fm.inj h.choose_spec]
theorem rd_inv {v : Value} {z : DataW Unit × List MemPlace} (h : rdF Fm v = some z) : ∃ x, v = Fm.enc x ∧ z = (Fm.dat x, []) := by
  unfold rdF at h
  by_cases hx : ∃ x, Fm.enc x = v
  · rw [dif_pos hx] at h
    exact ⟨hx.choose, hx.choose_spec.symm, (Option.some.inj h).symm⟩
  · rw [dif_neg hx] at h
    cases h
theorem own_like {w w' : World} {b n : Nat} {D : DataW Unit} (h : w.ownsMap Try.prog 3 (rdF Fm) b n D) (e : w'.heap[b]? = w.heap[b]?) : w'.ownsMap Try.prog 3 (rdF Fm) b n D := by
  obtain ⟨es, clock, hb, F, hs, hD⟩ := h
  exact ⟨es, clock, e.trans hb, F, hs, hD⟩
theorem own_tight {w : World} {b n : Nat} {D : DataW Unit} (h : w.ownsMap Try.prog 3 (rdF Fm) b n D) : w.ownsMap Try.prog 3 (rdF Fm) b (Maps.size D) D := by
  obtain ⟨es, clock, hb, F, hs, rfl⟩ := h
  refine ⟨es, clock, hb, F, ?_, rfl⟩
  rw [Maps.size_eq, length_sorted]
  simp
variable (Fm) (key : α → Int)
/-- A map that holds just these. -/
structure Mp (D : DataW Unit) (S : List α) : Prop where
  each : ∀ x ∈ S, ∀ z, D.atKey (.int .i64 (key x)) z = Fm.dat x
  only : ∀ n, Maps.has D (.int .i64 n) = true → ∃ x ∈ S, key x = n
  size : Maps.size D = S.length
variable {Fm key}
theorem mp_nil : Mp Fm key (.map []) [] := ⟨fun x hx => by simp at hx, fun n h => by simp [Maps.has] at h, rfl⟩
theorem mp_has {D : DataW Unit} {S : List α} (h : Mp Fm key D S) (n : Int) : Maps.has D (.int .i64 n) = (findK key n S).isSome := by
  cases hf : findK key n S with
  | none =>
    cases hb : Maps.has D (.int .i64 n)
    · rfl
    · obtain ⟨x, hx, e⟩ := h.only n hb
      exact absurd e (find_none.1 hf x hx)
  | some x =>
    obtain ⟨hx, e⟩ := find_some hf
    rw [← e]
    exact Maps.has_true_of_atKey (h.each x hx)
theorem mp_at {D : DataW Unit} {S : List α} (h : Mp Fm key D S) (n : Int) (x0 : α) : D.atKey (.int .i64 n) (Fm.dat x0) = Fm.dat ((findK key n S).getD x0) := by
  cases hf : findK key n S with
  | none =>
    rw [Maps.atKey_of_not_has (by rw [mp_has h, hf]; rfl)]
    rfl
  | some x =>
    obtain ⟨hx, e⟩ := find_some hf
    rw [← e]
    exact h.each x hx _
/-- One more. -/
theorem mp_put {D : DataW Unit} {S : List α} (h : Mp Fm key D S) (ht : Maps.Tidy D) {x : α} (hn : findK key (key x) S = none) : Mp Fm key (D.put (.int .i64 (key x)) (Fm.dat x)) (ins key x S) := by
  have hno := find_none.1 hn
  refine ⟨fun y hy z => ?_, fun n hh => ?_, ?_⟩
  · rcases ins_mem.1 hy with rfl | hy
    · exact Maps.atKey_put_same ht.isMap (key_lit _) _ _
    · rw [Maps.atKey_put_other (lit_ne (hno y hy))]
      exact h.each y hy z
  · by_cases e : n = key x
    · exact ⟨x, ins_mem.2 (.inl rfl), e.symm⟩
    · rw [Maps.has_put_other (lit_ne e)] at hh
      obtain ⟨y, hy, e2⟩ := h.only n hh
      exact ⟨y, ins_mem.2 (.inr hy), e2⟩
  · rw [Maps.size_put ht, if_neg (by rw [mp_has h, hn]; exact Bool.false_ne_true), h.size, ins_len]
/-- Its numbers, in order. -/
theorem mp_keys {w : World} {b n : Nat} {D : DataW Unit} {S : List α} (hown : w.ownsMap Try.prog 3 (rdF Fm) b n D) (h : Mp Fm key D S) (hS : Ord key S) {ss : List Int} (hp : ss.Perm (intKeys D)) :
    ss.length = S.length ∧ ss.mergeSort (fun x y => decide (x ≤ y)) = S.map key := by
  obtain ⟨es, hD, hpw, _⟩ := hown.entries lawI
  obtain ⟨es', hD', hko⟩ := hown.keysOf
  obtain rfl : es = es' := by rw [hD] at hD'; simpa using hD'
  subst hD
  have hnd : (S.map key).Nodup := by
    refine List.pairwise_map.2 (hS.imp fun {a b} h => ?_)
    omega
  have hq : (S.map key).Perm (intKeys (.map es)) := perm_intKeys hpw (fun p hp => by
    obtain ⟨v, hv⟩ := hko p hp
    obtain ⟨x, _, hx, _⟩ := Maps.keyOf_i64 Try.underlying3 hv
    exact ⟨x, hx⟩) hnd (fun n => by
    rw [List.mem_map]
    constructor
    · rintro ⟨x, hx, rfl⟩
      exact Maps.has_true_of_atKey (h.each x hx)
    · intro hn
      obtain ⟨x, hx, e⟩ := h.only n hn
      exact ⟨x, hx, e⟩)
  have hqq := hp.trans hq.symm
  refine ⟨by rw [hqq.length_eq, List.length_map], ?_⟩
  have h1 := mergeSort_of_perm_i hqq
  refine h1.trans (List.mergeSort_of_pairwise (List.pairwise_map.2 (hS.imp fun {a b} h => ?_)))
  simp only [leI, decide_eq_true_eq]
  omega
set_option maxRecDepth 100000 in
/-- What a number holds: with a word on whether there is any. -/
theorem look {w : World} {b n : Nat} {D : DataW Unit} {S : List α} {t e : TypeId} (ht : Try.prog.underlying t = some (.map 3 e)) (x0 : α) (hz : ∀ W, (zeroValue e).run Try.prog W = .ok (Fm.enc x0) W) (hown : w.ownsMap Try.prog 3 (rdF Fm) b n D) (h : Mp Fm key D S) {m : Int} (hm : In64 m) (W : World) (hW : W.heap[b]? = w.heap[b]?) :
    (Instr.lookup t (.map (some b)) (.int .i64 m) true).run Try.prog W = .ok (.tuple #[Fm.enc ((findK key m S).getD x0), .bool (findK key m S).isSome]) W := by
  obtain ⟨v, ps, hrun, hv⟩ := (own_like hown hW).look_ok lawI ht (hz W) (zd := Fm.dat x0) (rd_mk x0) (key_of hm)
  obtain ⟨y, rfl, hy⟩ := rd_inv hv
  injection hy with hy _
  rw [mp_at h] at hy
  rw [hrun, mp_has h, Fm.dinj hy]
set_option maxRecDepth 100000 in
theorem look1 {w : World} {b n : Nat} {D : DataW Unit} {S : List α} {t e : TypeId} (ht : Try.prog.underlying t = some (.map 3 e)) (x0 : α) (hz : ∀ W, (zeroValue e).run Try.prog W = .ok (Fm.enc x0) W) (hown : w.ownsMap Try.prog 3 (rdF Fm) b n D) (h : Mp Fm key D S) {m : Int} (hm : In64 m) (W : World) (hW : W.heap[b]? = w.heap[b]?) :
    (Instr.lookup t (.map (some b)) (.int .i64 m) false).run Try.prog W = .ok (Fm.enc ((findK key m S).getD x0)) W := by
  obtain ⟨v, ps, hrun, hv⟩ := (own_like hown hW).lookup lawI ht (hz W) (zd := Fm.dat x0) (rd_mk x0) (key_of hm)
  obtain ⟨y, rfl, hy⟩ := rd_inv hv
  injection hy with hy _
  rw [mp_at h] at hy
  rw [hrun, Fm.dinj hy]
/-- A cell that leads to nothing, or to a map of these. -/
def Tab (Fm : Form α) (key : α → Int) (w : World) (B : Nat) (mo : Option Nat) (S : List α) : Prop :=
  (mo = none ∧ S = []) ∨ ∃ b D, mo = some b ∧ B ≤ b ∧ w.ownsMap Try.prog 3 (rdF Fm) b S.length D ∧ Mp Fm key D S
theorem tab_lt {w : World} {B : Nat} {mo : Option Nat} {S : List α} (h : Tab Fm key w B mo S) {k : Nat} (hk : mo = some k) : B ≤ k ∧ k < w.heap.size := by
  rcases h with ⟨e, _⟩ | ⟨b, D, e, hB, hown, _⟩
  · rw [e] at hk
    cases hk
  · rw [e] at hk
    obtain rfl := Option.some.inj hk
    exact ⟨hB, hown.lt⟩
theorem tab_turn {w w' : World} {B : Nat} {mo : Option Nat} {S : List α} {T : Nat → Prop} (h : Tab Fm key w B mo S) (ht : Turn T w w') (hn : ∀ k, mo = some k → ¬ T k) : Tab Fm key w' B mo S := by
  rcases h with h | ⟨b, D, e, hB, hown, hM⟩
  · exact .inl h
  · exact .inr ⟨b, D, e, hB, own_like hown (ht.block b hown.lt (hn b e)), hM⟩
/-- A map's block is none whose cells lie. -/
theorem tab_ne {w : World} {B : Nat} {mo : Option Nat} {S : List α} (h : Tab Fm key w B mo S) {g : Nat} {t : TypeId} {cs : Array Value} (hl : Lies w g t cs) : mo ≠ some g := by
  rcases h with ⟨e, _⟩ | ⟨b, D, e, _, ⟨es, clock, hb, _⟩, _⟩
  · rw [e]
    intro h
    cases h
  · rw [e]
    intro h
    obtain rfl := Option.some.inj h
    have e2 := Option.some.inj (Eq.trans (Eq.symm hb) hl)
    cases e2
end
def zval (z : Zn) : Value := .agg #[.int .i64 z.id, .int .i64 z.worst, .int .i64 z.gap, .int .i64 z.room, .bool z.dock, .int .i64 z.ajar]
def zcells (z : Zn) : List Value := [.int .i64 z.id, .int .i64 z.worst, .int .i64 z.gap, .int .i64 z.room, .bool z.dock, .int .i64 z.ajar]
def zdat (z : Zn) : DataW Unit := .agg [.lit (.int .i64 z.id), .lit (.int .i64 z.worst), .lit (.int .i64 z.gap), .lit (.int .i64 z.room), .lit (.bool z.dock), .lit (.int .i64 z.ajar)]
def pval (p : Pd) : Value := .agg #[.int .i64 p.id, .int .i64 p.limit, .int .i64 p.budget]
def pcells (p : Pd) : List Value := [.int .i64 p.id, .int .i64 p.limit, .int .i64 p.budget]
def pdat (p : Pd) : DataW Unit := .agg [.lit (.int .i64 p.id), .lit (.int .i64 p.limit), .lit (.int .i64 p.budget)]
theorem zcells_len (z : Zn) : (zcells z).length = 6 := rfl
theorem pcells_len (p : Pd) : (pcells p).length = 3 := rfl
def Zf : Form Zn := ⟨zval, zdat, fun {x y} h => by
  simp only [zval, Value.agg.injEq, Array.mk.injEq, List.cons.injEq, Value.int.injEq, Value.bool.injEq, true_and, and_true] at h
  exact zn_ext h, fun {x y} h => by
  simp only [zdat, DataW.agg.injEq, List.cons.injEq, DataW.lit.injEq, Lit.int.injEq, Lit.bool.injEq, true_and, and_true] at h
  exact zn_ext h⟩
def Pf : Form Pd := ⟨pval, pdat, fun {x y} h => by
  simp only [pval, Value.agg.injEq, Array.mk.injEq, List.cons.injEq, Value.int.injEq, true_and, and_true] at h
  exact pd_ext h, fun {x y} h => by
  simp only [pdat, DataW.agg.injEq, List.cons.injEq, DataW.lit.injEq, Lit.int.injEq, true_and, and_true] at h
  exact pd_ext h⟩
theorem zeroZ (W : World) : (zeroValue 48).run Try.prog W = .ok (Zf.enc zn0) W := by kernel_rfl
end Ms
end Go.Proofs.Ytehiclmkdpcplaa
