/- Zones, products, and lists in the order of a number: plain words. No condition but those written. Lots in plain words: a stock, and what is done to it. No condition but those written. Stays in plain words: may they be, one by one; those up to a minute; their minutes, added. No condition but those written. Slices of structs: their cells as a list, rows that a call owns. No condition but those written. What layer 9's law leans on of package stays: a bundle of contracts, whatever the package is like inside; a step in plain words. No condition but those written. Lots in memory: rows of lots, whose stays lie elsewhere; the document's stock. No condition but those written. A stock stays as it may be, whatever is done to it. No condition but those written. -/
import Derived.Test.YtkfmkchonlajpaaQ01
import Derived.Lib.Hide
namespace Go.Proofs.Ytkfmkchonlajpaa.Ms

structure Zn where
  id : Int
  worst : Int
  gap : Int
  room : Int
  dock : Bool
  ajar : Int
structure Pd where
  id : Int
  limit : Int
  budget : Int
theorem zn_ext {a b : Zn} (h : a.id = b.id ∧ a.worst = b.worst ∧ a.gap = b.gap ∧ a.room = b.room ∧ a.dock = b.dock ∧ a.ajar = b.ajar) : a = b := by
  obtain ⟨a1, a2, a3, a4, a5, a6⟩ := a
  obtain ⟨b1, b2, b3, b4, b5, b6⟩ := b
  obtain ⟨rfl, rfl, rfl, rfl, rfl, rfl⟩ := h
  rfl
theorem pd_ext {a b : Pd} (h : a.id = b.id ∧ a.limit = b.limit ∧ a.budget = b.budget) : a = b := by
  obtain ⟨a1, a2, a3⟩ := a
  obtain ⟨b1, b2, b3⟩ := b
  obtain ⟨rfl, rfl, rfl⟩ := h
  rfl
instance : DecidableEq Zn := fun a b =>
  if h : a.id = b.id ∧ a.worst = b.worst ∧ a.gap = b.gap ∧ a.room = b.room ∧ a.dock = b.dock ∧ a.ajar = b.ajar then isTrue (zn_ext h) else isFalse (fun e => h (by subst e; exact ⟨rfl, rfl, rfl, rfl, rfl, rfl⟩))
instance : DecidableEq Pd := fun a b =>
  if h : a.id = b.id ∧ a.limit = b.limit ∧ a.budget = b.budget then isTrue (pd_ext h) else isFalse (fun e => h (by subst e; exact ⟨rfl, rfl, rfl⟩))
/-- Is a number from one up to another one? -/
def ft (n a b : Int) : Bool := decide (a ≤ n) && decide (n ≤ b)
theorem ft_t {n a b : Int} : ft n a b = true ↔ a ≤ n ∧ n ≤ b := by simp [ft]
theorem ft_f {n a b : Int} : ft n a b = false ↔ ¬ (a ≤ n ∧ n ≤ b) := by rw [← ft_t]; simp
/-- May a zone, or a product, be? -/
def rightZ (z : Zn) : Bool := ft z.id 1 16 && (ft z.worst (-1099511627776) 1099511627776 && (ft z.gap 0 1048575 && (ft z.room 0 1048576 && ft z.ajar 0 1048575)))
def rightP (p : Pd) : Bool := ft p.id 1 16 && (ft p.limit (-1099511627776) 1099511627776 && ft p.budget 0 4611686018427387904)

section
variable {α : Type} (key : α → Int)
/-- In order. -/
def Ord (S : List α) : Prop := S.Pairwise fun a b => key a < key b
/-- The one of a number. -/
def findK (n : Int) : List α → Option α
  | [] => none
  | y :: l => if key y = n then some y else findK n l
/-- One more, ahead of the first one that is greater. -/
def ins (x : α) : List α → List α
  | [] => [x]
  | y :: l => if key x < key y then x :: y :: l else y :: ins x l
/-- One is added: the error, and what there is then. -/
def addL (S : List α) (x : α) : Nat × List α := match findK key (key x) S with | some _ => (6, S) | none => (0, ins key x S)
variable {key}
theorem find_some {n : Int} {y : α} : ∀ {S : List α}, findK key n S = some y → y ∈ S ∧ key y = n
  | [], h => by simp [findK] at h
  | z :: l, h => by
    unfold findK at h
    by_cases hz : key z = n
    · rw [if_pos hz] at h
      obtain rfl := Option.some.inj h
      exact ⟨by simp, hz⟩
    · rw [if_neg hz] at h
      obtain ⟨h1, h2⟩ := find_some h
      exact ⟨List.mem_cons_of_mem _ h1, h2⟩
theorem find_none {n : Int} : ∀ {S : List α}, findK key n S = none ↔ ∀ y ∈ S, key y ≠ n
  | [] => by simp [findK]
  | z :: l => by
    unfold findK
    by_cases hz : key z = n
    · rw [if_pos hz]
      simp [hz]
    · rw [if_neg hz, find_none]
      simp [hz]
theorem ord_key {S : List α} (h : Ord key S) {x y : α} (hx : x ∈ S) (hy : y ∈ S) (e : key x = key y) : x = y := by
  obtain ⟨i, hi, rfl⟩ := List.mem_iff_getElem.1 hx
  obtain ⟨j, hj, rfl⟩ := List.mem_iff_getElem.1 hy
  rcases Nat.lt_trichotomy i j with hij | hij | hij
  · have := List.pairwise_iff_getElem.1 h i j hi hj hij
    omega
  · subst hij
    rfl
  · have := List.pairwise_iff_getElem.1 h j i hj hi hij
    omega
theorem find_mem {S : List α} (h : Ord key S) {y : α} (hy : y ∈ S) : findK key (key y) S = some y := by
  cases hf : findK key (key y) S with
  | none => exact absurd rfl (find_none.1 hf y hy)
  | some z =>
    obtain ⟨h1, h2⟩ := find_some hf
    rw [ord_key h h1 hy h2]
theorem ins_mem {x y : α} : ∀ {S : List α}, y ∈ ins key x S ↔ y = x ∨ y ∈ S
  | [] => by simp [ins]
  | z :: l => by
    unfold ins
    by_cases hz : key x < key z
    · rw [if_pos hz]
      simp
    · rw [if_neg hz, List.mem_cons, ins_mem, List.mem_cons]
      constructor
      · rintro (h | h | h)
        · exact .inr (.inl h)
        · exact .inl h
        · exact .inr (.inr h)
      · rintro (h | h | h)
        · exact .inr (.inl h)
        · exact .inl h
        · exact .inr (.inr h)
theorem ins_len {x : α} : ∀ {S : List α}, (ins key x S).length = S.length + 1
  | [] => rfl
  | z :: l => by
    unfold ins
    by_cases hz : key x < key z
    · rw [if_pos hz]
      simp
    · rw [if_neg hz, List.length_cons, ins_len, List.length_cons]
theorem ins_ord {x : α} : ∀ {S : List α}, Ord key S → (∀ y ∈ S, key y ≠ key x) → Ord key (ins key x S)
  | [], _, _ => by simp [ins, Ord]
  | z :: l, h, hn => by
    obtain ⟨h1, h2⟩ := List.pairwise_cons.1 h
    unfold ins
    by_cases hz : key x < key z
    · rw [if_pos hz]
      refine List.pairwise_cons.2 ⟨fun y hy => ?_, h⟩
      rcases List.mem_cons.1 hy with rfl | hy
      · exact hz
      · have := h1 y hy
        omega
    · rw [if_neg hz]
      refine List.pairwise_cons.2 ⟨fun y hy => ?_, ins_ord h2 (fun y hy => hn y (List.mem_cons_of_mem _ hy))⟩
      rcases ins_mem.1 hy with rfl | hy
      · have := hn z (by simp)
        omega
      · exact h1 y hy
/-- Ahead of the first one that is greater: those that were gone through. -/
theorem ins_here {x y : α} : ∀ {A : List α} (B : List α), (∀ z ∈ A, ¬ key x < key z) → key x < key y → ins key x (A ++ y :: B) = A ++ x :: y :: B
  | [], B, _, hy => by
    rw [List.nil_append, ins, if_pos hy]
    rfl
  | z :: A, B, hA, hy => by
    rw [List.cons_append, ins, if_neg (hA z (by simp)), ins_here B (fun u hu => hA u (List.mem_cons_of_mem _ hu)) hy]
    rfl
theorem ins_more {x : α} {B : List α} : ∀ {A : List α}, (∃ z ∈ A, key x < key z) → ins key x (A ++ B) = ins key x A ++ B
  | [], h => by simp at h
  | z :: A, h => by
    by_cases hz : key x < key z
    · rw [List.cons_append, ins, if_pos hz, ins, if_pos hz]
      rfl
    · obtain ⟨u, hu, hu2⟩ := h
      rcases List.mem_cons.1 hu with rfl | hu
      · exact absurd hu2 hz
      · rw [List.cons_append, ins, if_neg hz, ins, if_neg hz, ins_more ⟨u, hu, hu2⟩]
        rfl
theorem ins_end {x : α} : ∀ {A : List α}, (∀ z ∈ A, ¬ key x < key z) → ins key x A = A ++ [x]
  | [], _ => rfl
  | z :: A, h => by
    rw [ins, if_neg (h z (by simp)), ins_end (fun u hu => h u (List.mem_cons_of_mem _ hu))]
    rfl
theorem add_ord {S : List α} {x : α} (h : Ord key S) : Ord key (addL key S x).2 := by
  unfold addL
  cases hf : findK key (key x) S with
  | some y => exact h
  | none => exact ins_ord h (find_none.1 hf)
theorem add_len {S : List α} {x : α} : (addL key S x).2.length ≤ S.length + 1 := by
  unfold addL
  cases hf : findK key (key x) S with
  | some y => exact Nat.le_succ _
  | none => exact Nat.le_of_eq ins_len
theorem ord_nil : Ord key [] := List.Pairwise.nil
/-- How far one has gone: what has been laid down, and whether the new one is in it. -/
def Far (x : α) (S : List α) (k : Nat) (done : Bool) (out : List α) : Prop :=
  (∀ y ∈ S.take k, key y ≠ key x) ∧ ((done = true ∧ out = ins key x (S.take k) ∧ ∃ z ∈ S.take k, key x < key z) ∨ (done = false ∧ out = S.take k ∧ ∀ z ∈ S.take k, ¬ key x < key z))
theorem far_start (x : α) (S : List α) : Far (key := key) x S 0 false [] := ⟨by simp, .inr ⟨rfl, rfl, by simp⟩⟩
theorem take_one {S : List α} {k : Nat} {y : α} (hy : S[k]? = some y) : S.take (k + 1) = S.take k ++ [y] := by rw [List.take_add_one, hy]; rfl
theorem far_done {x : α} {S : List α} {k : Nat} {out : List α} {y : α} (h : Far (key := key) x S k true out) (hy : S[k]? = some y) (hn : key y ≠ key x) : Far (key := key) x S (k + 1) true (out ++ [y]) := by
  obtain ⟨h1, h2 | ⟨h2, _⟩⟩ := h
  · refine ⟨fun z hz => ?_, .inl ⟨rfl, ?_, ?_⟩⟩
    · rw [take_one hy] at hz
      rcases List.mem_append.1 hz with hz | hz
      · exact h1 z hz
      · rw [List.mem_singleton.1 hz]
        exact hn
    · rw [take_one hy, ins_more h2.2.2, h2.2.1]
    · obtain ⟨z, hz, hl⟩ := h2.2.2
      exact ⟨z, by rw [take_one hy]; exact List.mem_append_left _ hz, hl⟩
  · cases h2
theorem far_here {x : α} {S : List α} {k : Nat} {out : List α} {y : α} (h : Far (key := key) x S k false out) (hy : S[k]? = some y) (hl : key x < key y) : Far (key := key) x S (k + 1) true (out ++ [x] ++ [y]) := by
  obtain ⟨h1, ⟨h2, _⟩ | h2⟩ := h
  · cases h2
  · refine ⟨fun z hz => ?_, .inl ⟨rfl, ?_, ?_⟩⟩
    · rw [take_one hy] at hz
      rcases List.mem_append.1 hz with hz | hz
      · exact h1 z hz
      · rw [List.mem_singleton.1 hz]
        omega
    · rw [take_one hy, ins_here [] h2.2.2 hl, h2.2.1]
      simp
    · exact ⟨y, by rw [take_one hy]; simp, hl⟩
theorem far_not {x : α} {S : List α} {k : Nat} {out : List α} {y : α} (h : Far (key := key) x S k false out) (hy : S[k]? = some y) (hn : key y ≠ key x) (hl : ¬ key x < key y) : Far (key := key) x S (k + 1) false (out ++ [y]) := by
  obtain ⟨h1, ⟨h2, _⟩ | h2⟩ := h
  · cases h2
  · refine ⟨fun z hz => ?_, .inr ⟨rfl, by rw [take_one hy, h2.2.1], fun z hz => ?_⟩⟩
    · rw [take_one hy] at hz
      rcases List.mem_append.1 hz with hz | hz
      · exact h1 z hz
      · rw [List.mem_singleton.1 hz]
        exact hn
    · rw [take_one hy] at hz
      rcases List.mem_append.1 hz with hz | hz
      · exact h2.2.2 z hz
      · rw [List.mem_singleton.1 hz]
        exact hl
/-- Gone through whole. -/
theorem far_end {x : α} {S : List α} {out : List α} {done : Bool} (h : Far (key := key) x S S.length done out) : addL key S x = (0, if done then out else out ++ [x]) := by
  obtain ⟨h1, h2⟩ := h
  rw [List.take_length] at h1 h2
  unfold addL
  rw [find_none.2 h1]
  simp only
  rcases h2 with ⟨rfl, h3, _⟩ | ⟨rfl, h3, h4⟩
  · rw [if_pos rfl, h3]
  · rw [if_neg (by decide), h3, ins_end h4]
theorem far_twice {x : α} {S : List α} {k : Nat} {done : Bool} {out : List α} {y : α} (_ : Far (key := key) x S k done out) (hy : S[k]? = some y) (he : key y = key x) : addL key S x = (6, S) := by
  unfold addL
  cases hf : findK key (key x) S with
  | some z => rfl
  | none => exact absurd he (find_none.1 hf y (List.mem_of_getElem? hy))
theorem far_len {x : α} {S : List α} {k : Nat} {done : Bool} {out : List α} (h : Far (key := key) x S k done out) : out.length ≤ k + 1 := by
  have ht : (S.take k).length ≤ k := by simp; omega
  obtain ⟨_, ⟨_, h2, _⟩ | ⟨_, h2, _⟩⟩ := h
  · rw [h2, ins_len]
    omega
  · rw [h2]
    omega
theorem far_len0 {x : α} {S : List α} {k : Nat} {out : List α} (h : Far (key := key) x S k false out) : out.length ≤ k := by
  have ht : (S.take k).length ≤ k := by simp; omega
  obtain ⟨_, ⟨h2, _⟩ | ⟨_, h2, _⟩⟩ := h
  · cases h2
  · rw [h2]
    omega
/-- Looked for, one by one. -/
theorem find_skip {n : Int} {S : List α} {k : Nat} (h : ∀ y ∈ S.take k, key y ≠ n) : findK key n S = findK key n (S.drop k) := by
  induction S generalizing k with
  | nil => simp
  | cons z l ih =>
    cases k with
    | zero => rfl
    | succ k =>
      rw [List.take_succ_cons] at h
      rw [findK, if_neg (h z (by simp)), List.drop_succ_cons]
      exact ih (fun y hy => h y (List.mem_cons_of_mem _ hy))
theorem find_at {n : Int} {S : List α} {k : Nat} {y : α} (h : ∀ y ∈ S.take k, key y ≠ n) (hy : S[k]? = some y) (he : key y = n) : findK key n S = some y := by
  rw [find_skip h]
  have : S.drop k = y :: S.drop (k + 1) := by
    obtain ⟨hk, rfl⟩ := List.getElem?_eq_some_iff.1 hy
    exact List.drop_eq_getElem_cons hk
  rw [this, findK, if_pos he]
theorem not_next {n : Int} {S : List α} {k : Nat} {y : α} (h : ∀ y ∈ S.take k, key y ≠ n) (hy : S[k]? = some y) (he : key y ≠ n) : ∀ z ∈ S.take (k + 1), key z ≠ n := by
  intro z hz
  rw [take_one hy] at hz
  rcases List.mem_append.1 hz with hz | hz
  · exact h z hz
  · rw [List.mem_singleton.1 hz]
    exact he
end
/-- A zone, a product, is added. -/
def addZ (S : List Zn) (z : Zn) : Nat × List Zn := if rightZ z then addL Zn.id S z else (1, S)
def addP (S : List Pd) (p : Pd) : Nat × List Pd := if rightP p then addL Pd.id S p else (1, S)
def zn0 : Zn := ⟨0, 0, 0, 0, false, 0⟩
def pd0 : Pd := ⟨0, 0, 0⟩
/-- The one of a number, or the error. -/
def getK {α : Type} (o : Option α) (z : α) : α × Nat := match o with | some x => (x, 0) | none => (z, 5)
theorem addZ_ord {S : List Zn} {z : Zn} (h : Ord Zn.id S) : Ord Zn.id (addZ S z).2 := by
  unfold addZ
  split
  · exact add_ord h
  · exact h
theorem addP_ord {S : List Pd} {p : Pd} (h : Ord Pd.id S) : Ord Pd.id (addP S p).2 := by
  unfold addP
  split
  · exact add_ord h
  · exact h
theorem addZ_len {S : List Zn} {z : Zn} : (addZ S z).2.length ≤ S.length + 1 := by
  unfold addZ
  split
  · exact add_len
  · exact Nat.le_succ _
theorem addP_len {S : List Pd} {p : Pd} : (addP S p).2.length ≤ S.length + 1 := by
  unfold addP
  split
  · exact add_len
  · exact Nat.le_succ _
end Go.Proofs.Ytkfmkchonlajpaa.Ms

namespace Go.Proofs.Ytkfmkchonlajpaa.Lo

/-- A lot. -/
structure Lt where
  id : Int
  product : Int
  units : Int
  expiry : Int
  grant : Int
  order : Int
  status : Int
  stays : List Sy.Sy
  deriving DecidableEq
/-- The zone where it is; 0: none. -/
def inL (x : Lt) : Int := match x.stays.getLast? with
  | some s => if s.to = -1 then s.zone else 0
  | none => 0
/-- What it adds to a zone's load. -/
def addL (z : Int) (x : Lt) : Int := if inL x = z ∧ z ≠ 0 then x.units else 0
def loadL (l : List Lt) (z : Int) : Int := l.foldl (fun n x => n + addL z x) 0
theorem load_snoc (l : List Lt) (x : Lt) (z : Int) : loadL (l ++ [x]) z = loadL l z + addL z x := by simp [loadL]
/-- Its place; none: there is none. -/
def at_ (id : Int) : List Lt → Option Nat
  | [] => none
  | x :: l => if x.id = id then some 0 else (at_ id l).map (· + 1)
theorem at_some {id : Int} : ∀ {l : List Lt} {i : Nat}, at_ id l = some i → ∃ x, l[i]? = some x ∧ x.id = id
  | [], i, h => by simp [at_] at h
  | x :: l, i, h => by
    unfold at_ at h
    by_cases hx : x.id = id
    · rw [if_pos hx] at h
      rw [← Option.some.inj h]
      exact ⟨x, rfl, hx⟩
    · rw [if_neg hx, Option.map_eq_some_iff] at h
      obtain ⟨j, hj, rfl⟩ := h
      obtain ⟨y, hy, e⟩ := at_some hj
      exact ⟨y, by rw [List.getElem?_cons_succ]; exact hy, e⟩
theorem at_none {id : Int} : ∀ {l : List Lt}, at_ id l = none ↔ ∀ x ∈ l, x.id ≠ id
  | [] => by simp [at_]
  | x :: l => by
    unfold at_
    by_cases hx : x.id = id
    · rw [if_pos hx]
      simp [hx]
    · rw [if_neg hx, Option.map_eq_none_iff, at_none]
      simp [hx]
theorem at_first {id : Int} : ∀ {l : List Lt} {i : Nat} {x : Lt}, l[i]? = some x → x.id = id → (∀ y ∈ l.take i, y.id ≠ id) → at_ id l = some i
  | [], i, x, h, _, _ => by simp at h
  | y :: l, 0, x, h, e, _ => by
    rw [List.getElem?_cons_zero] at h
    rw [Option.some.inj h, at_, if_pos e]
  | y :: l, i + 1, x, h, e, hn => by
    rw [List.getElem?_cons_succ] at h
    rw [List.take_succ_cons] at hn
    rw [at_, if_neg (hn y (by simp)), at_first h e (fun z hz => hn z (List.mem_cons_of_mem _ hz))]
    rfl
theorem at_lt {id : Int} {l : List Lt} {i : Nat} (h : at_ id l = some i) : i < l.length := by
  obtain ⟨x, hx, _⟩ := at_some h
  exact (List.getElem?_eq_some_iff.1 hx).1
/-- A stock: lots, the greatest number that was given. -/
abbrev Stk := List Lt × Int
/-- What an act tells: a number, an error. -/
abbrev Say := Int × Nat
def recvOk (units expiry now : Int) : Bool := decide (1 ≤ units) && (decide (units ≤ 1048576) && (decide (0 ≤ expiry) && (decide (expiry ≤ 1048575) && (decide (0 ≤ now) && decide (now ≤ 1048575)))))
def recvS (Z : List Ms.Zn) (P : List Ms.Pd) (s : Stk) (product zone units expiry now : Int) : Say × Stk :=
  if recvOk units expiry now = false then ((0, 1), s)
  else match Ms.findK Ms.Pd.id product P, Ms.findK Ms.Zn.id zone Z with
    | some _, some z => if 256 ≤ s.2 ∨ z.room < loadL s.1 zone + units then ((0, 4), s) else ((s.2 + 1, 0), (s.1 ++ [⟨s.2 + 1, product, units, expiry, 0, 0, 0, [⟨zone, now, -1⟩]⟩], s.2 + 1))
    | _, _ => ((0, 5), s)
open Classical in
noncomputable def moveS (Z : List Ms.Zn) (s : Stk) (id zone now : Int) : Nat × Stk :=
  match at_ id s.1, Ms.findK Ms.Zn.id zone Z with
  | some i, some z => match s.1[i]? with
    | some x => if inL x = 0 then (8, s) else if inL x = zone then (0, s) else if z.room < loadL s.1 zone + x.units then (4, s)
      else if Sy.May x.stays now ∧ 1 ≤ zone then (0, (s.1.set i { x with stays := Sy.goS (Sy.untilS x.stays now) zone now }, s.2)) else (1, s)
    | none => (5, s)
  | _, _ => (5, s)
def splitS (s : Stk) (id units : Int) : Say × Stk :=
  match at_ id s.1 with
  | some i => match s.1[i]? with
    | some x => if units < 1 ∨ x.units ≤ units then ((0, 1), s) else if inL x = 0 then ((0, 8), s) else if 256 ≤ s.2 then ((0, 4), s)
      else ((s.2 + 1, 0), (s.1.set i { x with units := x.units - units } ++ [{ x with id := s.2 + 1, units := units }], s.2 + 1))
    | none => ((0, 5), s)
  | none => ((0, 5), s)
/-- Do two lots differ in nothing but number and units? -/
def alikeB (a b : Lt) : Bool := decide (a.stays = b.stays) && (decide (a.product = b.product) && (decide (a.expiry = b.expiry) && (decide (a.grant = b.grant) && (decide (a.order = b.order) && decide (a.status = b.status)))))
def mergeS (s : Stk) (into frm : Int) : Nat × Stk :=
  match at_ into s.1, at_ frm s.1 with
  | some i, some k => match s.1[i]?, s.1[k]? with
    | some x, some y => if i = k then (1, s) else if inL x = 0 then (8, s) else if alikeB x y = false then (12, s)
      else (0, ((s.1.set i { x with units := x.units + y.units }).eraseIdx k, s.2))
    | _, _ => (5, s)
  | _, _ => (5, s)
def markS (s : Stk) (id st order grant : Int) : Nat × Stk :=
  match at_ id s.1 with
  | some i => match s.1[i]? with
    | some x => if st < 0 ∨ 4 < st ∨ order < 0 ∨ grant < 0 then (1, s) else (0, (s.1.set i { x with status := st, order := order, grant := grant }, s.2))
    | none => (5, s)
  | none => (5, s)
open Classical in
noncomputable def leaveS (s : Stk) (id now : Int) : Nat × Stk :=
  match at_ id s.1 with
  | some i => match s.1[i]? with
    | some x => if Sy.May x.stays now ∧ (∃ A u, x.stays = A ++ [u] ∧ u.to = -1) then (0, (s.1.set i { x with stays := Sy.untilS x.stays now }, s.2)) else (1, s)
    | none => (5, s)
  | none => (5, s)
def lt0 : Lt := ⟨0, 0, 0, 0, 0, 0, 0, []⟩
def lotS (s : Stk) (id : Int) : Lt × Nat :=
  match at_ id s.1 with
  | some i => match s.1[i]? with
    | some x => (x, 0)
    | none => (lt0, 5)
  | none => (lt0, 5)
open Classical in
noncomputable def putOk (given : Int) (x : Lt) : Bool := decide (given < x.id ∧ x.id ≤ 256 ∧ 1 ≤ x.units ∧ x.units ≤ 1048576 ∧ 0 ≤ x.status ∧ x.status ≤ 4 ∧ Sy.Right x.stays ∧ 0 ≤ x.product ∧ 0 ≤ x.expiry ∧ 0 ≤ x.grant ∧ 0 ≤ x.order)
noncomputable def putS (s : Stk) (x : Lt) : Nat × Stk := if putOk s.2 x = true then (0, (s.1 ++ [x], x.id)) else (1, s)
def giveS (s : Stk) (id : Int) : Nat × Stk := if id < s.2 ∨ 256 < id then (1, s) else (0, (s.1, id))
/-- A stock as it may be. -/
structure Good (s : Stk) : Prop where
  ids : s.1.Pairwise fun a b => a.id < b.id
  low : ∀ x ∈ s.1, 1 ≤ x.id ∧ x.id ≤ s.2
  given : 0 ≤ s.2 ∧ s.2 ≤ 256
  units : ∀ x ∈ s.1, 1 ≤ x.units
  sum : (s.1.map Lt.units).sum ≤ s.2 * 1048576
  long : ∀ x ∈ s.1, x.stays.length ≤ 100000
theorem good_nil : Good ([], 0) := ⟨List.Pairwise.nil, fun x hx => by simp at hx, by simp, fun x hx => by simp at hx, by simp, fun x hx => by simp at hx⟩
theorem good_len {s : Stk} (h : Good s) : s.1.length ≤ 256 := by
  have key : ∀ (l : List Lt) (m : Int), l.Pairwise (fun a b => a.id < b.id) → (∀ x ∈ l, m < x.id) → ∀ g : Int, m ≤ g → (∀ x ∈ l, x.id ≤ g) → (l.length : Int) ≤ g - m := by
    intro l
    induction l with
    | nil =>
      intro m _ _ g hg _
      simp
      omega
    | cons x l ih =>
      intro m hp hm g hg hh
      obtain ⟨h1, h2⟩ := List.pairwise_cons.1 hp
      have h3 := hm x (by simp)
      have h4 := hh x (by simp)
      have := ih x.id h2 h1 g h4 (fun y hy => hh y (List.mem_cons_of_mem _ hy))
      simp only [List.length_cons]
      omega
  have h1 := key s.1 0 h.ids (fun x hx => by have := (h.low x hx).1; omega) s.2 h.given.1 (fun x hx => (h.low x hx).2)
  have := h.given.2
  omega
/-- Sums of lots' units. -/
theorem load_le : ∀ (l : List Lt) (z n0 : Int), (∀ x ∈ l, 1 ≤ x.units) → n0 ≤ l.foldl (fun n x => n + addL z x) n0 ∧ l.foldl (fun n x => n + addL z x) n0 ≤ n0 + (l.map Lt.units).sum
  | [], z, n0, _ => by simp
  | x :: l, z, n0, h => by
    have hx := h x (by simp)
    have h1 := load_le l z (n0 + addL z x) (fun y hy => h y (List.mem_cons_of_mem _ hy))
    have ha : 0 ≤ addL z x ∧ addL z x ≤ x.units := by
      unfold addL
      split <;> omega
    simp only [List.foldl_cons, List.map_cons, List.sum_cons]
    omega
theorem sum_pos : ∀ (l : List Lt), (∀ x ∈ l, 1 ≤ x.units) → (l.length : Int) ≤ (l.map Lt.units).sum
  | [], _ => by simp
  | x :: l, h => by
    have hx := h x (by simp)
    have := sum_pos l (fun y hy => h y (List.mem_cons_of_mem _ hy))
    simp only [List.map_cons, List.sum_cons, List.length_cons]
    omega
theorem sum_mem : ∀ {l : List Lt} {x : Lt}, (∀ y ∈ l, 1 ≤ y.units) → x ∈ l → x.units ≤ (l.map Lt.units).sum
  | [], x, _, hx => by simp at hx
  | y :: l, x, h, hx => by
    have hy := h y (by simp)
    have hp := sum_pos l (fun z hz => h z (List.mem_cons_of_mem _ hz))
    simp only [List.map_cons, List.sum_cons]
    rcases List.mem_cons.1 hx with rfl | hx
    · have : (0 : Int) ≤ (l.length : Int) := by omega
      omega
    · have := sum_mem (fun z hz => h z (List.mem_cons_of_mem _ hz)) hx
      omega
theorem good_load {s : Stk} (h : Good s) (z : Int) : 0 ≤ loadL s.1 z ∧ loadL s.1 z ≤ 268435456 := by
  have h1 := load_le s.1 z 0 h.units
  have h2 := h.sum
  have h3 := h.given
  unfold loadL
  omega
theorem good_units {s : Stk} (h : Good s) {x : Lt} (hx : x ∈ s.1) : 1 ≤ x.units ∧ x.units ≤ 268435456 := by
  have h1 := sum_mem h.units hx
  have h2 := h.sum
  have h3 := h.given
  exact ⟨h.units x hx, by omega⟩
end Go.Proofs.Ytkfmkchonlajpaa.Lo

namespace Go.Proofs.Ytkfmkchonlajpaa.Sy

/-- Is a stay as it may be, behind the one ahead of it? -/
def okP (t : Option Sy) (s : Sy) : Bool := decide (1 ≤ s.zone) && (decide (0 ≤ s.frm) && ((decide (s.frm < s.to) || decide (s.to = -1)) && (match t with | none => true | some t => decide (s.frm = t.to))))
def rightF : Option Sy → List Sy → Bool
  | _, [] => true
  | t, s :: l => okP t s && rightF (some s) l
/-- May stays be? -/
def rightB (l : List Sy) : Bool := rightF none l
theorem okP_iff {t : Option Sy} {s : Sy} : okP t s = true ↔ 1 ≤ s.zone ∧ 0 ≤ s.frm ∧ (s.frm < s.to ∨ s.to = -1) ∧ ∀ x, t = some x → s.frm = x.to := by
  cases t with
  | none => simp [okP]
  | some x => simp [okP]
theorem rightF_iff : ∀ (l : List Sy) (t : Option Sy), rightF t l = true ↔ ∀ (i : Nat) (s : Sy), l[i]? = some s → okP (if i = 0 then t else l[i - 1]?) s = true
  | [], t => by simp [rightF]
  | x :: l, t => by
    rw [rightF, Bool.and_eq_true, rightF_iff l (some x)]
    constructor
    · rintro ⟨h0, h⟩ i s hs
      cases i with
      | zero =>
        rw [List.getElem?_cons_zero] at hs
        rw [if_pos rfl, ← Option.some.inj hs]
        exact h0
      | succ i =>
        rw [List.getElem?_cons_succ] at hs
        have := h i s hs
        rw [if_neg (Nat.succ_ne_zero i), Nat.add_sub_cancel]
        cases i with
        | zero => simpa using this
        | succ i => simpa using this
    · intro h
      refine ⟨by simpa using h 0 x rfl, fun i s hs => ?_⟩
      have := h (i + 1) s (by rw [List.getElem?_cons_succ]; exact hs)
      rw [if_neg (Nat.succ_ne_zero i), Nat.add_sub_cancel] at this
      cases i with
      | zero => simpa using this
      | succ i => simpa using this
theorem rightB_iff {l : List Sy} : rightB l = true ↔ ∀ (i : Nat) (s : Sy), l[i]? = some s → 1 ≤ s.zone ∧ 0 ≤ s.frm ∧ (s.frm < s.to ∨ s.to = -1) ∧ ∀ t, 0 < i → l[i - 1]? = some t → s.frm = t.to := by
  rw [rightB, rightF_iff]
  refine forall_congr' fun i => forall_congr' fun s => ⟨fun h hs => ?_, fun h hs => ?_⟩
  · have := okP_iff.1 (h hs)
    refine ⟨this.1, this.2.1, this.2.2.1, fun t hi ht => this.2.2.2 t ?_⟩
    rw [if_neg (by omega)]
    exact ht
  · have := h hs
    refine okP_iff.2 ⟨this.1, this.2.1, this.2.2.1, fun t ht => ?_⟩
    by_cases hi : i = 0
    · rw [if_pos hi] at ht
      cases ht
    · rw [if_neg hi] at ht
      exact this.2.2.2 t (by omega) ht
theorem right_B {l : List Sy} : rightB l = true ↔ Right l := by
  rw [rightB_iff]
  constructor
  · intro h i s hs
    obtain ⟨h1, h2, h3, _⟩ := h i s hs
    have hn : ∀ t, l[i + 1]? = some t → t.frm = s.to := fun t ht => (h (i + 1) t ht).2.2.2 s (by omega) (by rw [Nat.add_sub_cancel]; exact hs)
    refine ⟨h1, h2, ?_, hn⟩
    rcases h3 with h3 | h3
    · exact .inl h3
    · refine .inr ⟨h3, ?_⟩
      have hlt := (List.getElem?_eq_some_iff.1 hs).1
      by_cases he : i + 1 = l.length
      · exact he
      · have hl : i + 1 < l.length := by omega
        have e := hn _ (List.getElem?_eq_getElem hl)
        have p := (h (i + 1) _ (List.getElem?_eq_getElem hl)).2.1
        omega
  · intro h i s hs
    obtain ⟨h1, h2, h3, h4⟩ := h i s hs
    refine ⟨h1, h2, h3.imp id (fun h => h.1), fun t hi ht => ?_⟩
    have := (h (i - 1) t ht).2.2.2 s (by rw [show i - 1 + 1 = i by omega]; exact hs)
    exact this
theorem right_no {l : List Sy} (h : ¬ Right l) : rightB l = false := by
  cases hb : rightB l
  · rfl
  · exact absurd (right_B.1 hb) h
theorem right_yes {l : List Sy} (h : Right l) : rightB l = true := right_B.2 h
/-- One that is not as it may be. -/
theorem right_bad {l : List Sy} {i : Nat} {s : Sy} (hs : l[i]? = some s) (h : ¬ (1 ≤ s.zone ∧ 0 ≤ s.frm ∧ (s.frm < s.to ∨ s.to = -1) ∧ ∀ t, 0 < i → l[i - 1]? = some t → s.frm = t.to)) : rightB l = false := by
  cases hb : rightB l
  · rfl
  · exact absurd (rightB_iff.1 hb i s hs) h

/-- A stay up to a minute. -/
def cut (m : Int) (s : Sy) : Sy := if s.to = -1 ∨ m < s.to then ⟨s.zone, s.frm, m⟩ else s
/-- The stays up to a minute. -/
def uptoS (l : List Sy) (m : Int) : List Sy := (l.filter fun s => decide (s.frm < m)).map (cut m)
theorem upto_nil (m : Int) : uptoS [] m = [] := rfl
theorem upto_len (l : List Sy) (m : Int) : (uptoS l m).length ≤ l.length := by
  rw [uptoS, List.length_map]
  exact List.length_filter_le ..
theorem upto_snoc (A : List Sy) (s : Sy) (m : Int) : uptoS (A ++ [s]) m = uptoS A m ++ if s.frm < m then [cut m s] else [] := by
  unfold uptoS
  rw [List.filter_append, List.map_append]
  by_cases h : s.frm < m
  · rw [if_pos h]
    simp [h]
  · rw [if_neg h]
    simp [h]
/-- Stays that ended, none of them behind a minute, stay whole. -/
theorem upto_whole {A : List Sy} {e m : Int} (h : Shut A) (he : Ends A e) (hm : e ≤ m) : uptoS A m = A := by
  have h1 := shut_le h he
  unfold uptoS
  have h2 : A.filter (fun s => decide (s.frm < m)) = A := by
    rw [List.filter_eq_self]
    intro s hs
    have := h1 s hs
    rw [decide_eq_true_eq]
    omega
  rw [h2]
  have h3 : ∀ s ∈ A, cut m s = id s := by
    intro s hs
    have h4 := h1 s hs
    have h5 : 0 ≤ s.frm := by
      obtain ⟨i, hi⟩ := List.mem_iff_getElem?.1 hs
      exact (h i s hi).2.1
    unfold cut
    rw [if_neg (by omega)]
    rfl
  rw [List.map_congr_left h3, List.map_id]
theorem upto_until {l : List Sy} {now : Int} (h : May l now) : uptoS l now = untilS l now := by
  rcases ends_of l with rfl | ⟨A, s, rfl⟩
  · rfl
  · obtain ⟨h1, h2, h3, h4, h5⟩ := right_snoc.1 h.1
    have h0 := h.2.1
    rw [upto_snoc]
    rcases may_last h with ⟨e, hf⟩ | e
    · rw [upto_whole h1 h5 hf]
      by_cases hn : s.frm < now
      · rw [until_cut e hn, if_pos hn, cut, if_pos (.inl e)]
      · rw [until_drop e hn, if_neg hn, List.append_nil]
    · have hne : s.to ≠ -1 := by omega
      have hn : s.frm < now := by
        rcases h4 with h4 | h4
        · omega
        · exact absurd h4 hne
      rw [upto_whole h1 h5 (by omega), if_pos hn, until_shut hne, cut, if_neg (by omega)]
/-- As the program finds them: all up to a place, the last one cut. -/
def cutL (l : List Sy) (k : Nat) (m : Int) : List Sy := if h : 0 < k ∧ k ≤ l.length then l.take (k - 1) ++ [cut m (l[k - 1]'(by omega))] else []
theorem rights_up {l : List Sy} (h : Right l) {i : Nat} {a b : Sy} (ha : l[i]? = some a) (hb : l[i + 1]? = some b) : a.frm < b.frm ∧ a.to = b.frm ∧ a.to ≠ -1 := by
  have h1 := h i a ha
  have h2 := h (i + 1) b hb
  have h3 := h1.2.2.2 b hb
  have h4 := h2.2.1
  rcases h1.2.2.1 with h5 | h5
  · omega
  · omega
theorem upto_take {l : List Sy} (h : Right l) (m : Int) : ∀ k, k ≤ l.length → (∀ i s, i < k → l[i]? = some s → s.frm < m) → uptoS (l.take k) m = cutL l k m
  | 0, _, _ => by
    rw [cutL, dif_neg (by omega)]
    rfl
  | k + 1, hk, hlt => by
    have hk' : k < l.length := by omega
    rw [cutL, dif_pos ⟨by omega, hk⟩]
    have e := List.getElem?_eq_getElem hk'
    rw [List.take_add_one, e, Option.toList_some, upto_snoc, if_pos (hlt k _ (by omega) e)]
    have e2 : k + 1 - 1 = k := rfl
    simp only [e2]
    congr 1
    -- what stands ahead ended, and stays whole
    have hs : Shut (l.take k) ∧ Ends (l.take k) l[k].frm := by
      have h1 : Right (l.take (k + 1)) := by
        intro i s hs
        have hi : i < k + 1 := by
          have := (List.getElem?_eq_some_iff.1 hs).1
          rw [List.length_take] at this
          omega
        rw [List.getElem?_take_of_lt hi] at hs
        obtain ⟨a1, a2, a3, a4⟩ := h i s hs
        refine ⟨a1, a2, ?_, fun t ht => ?_⟩
        · rcases a3 with a3 | a3
          · exact .inl a3
          · refine .inr ⟨a3.1, ?_⟩
            rw [List.length_take]
            omega
        · have hi2 : i + 1 < k + 1 := by
            have := (List.getElem?_eq_some_iff.1 ht).1
            rw [List.length_take] at this
            omega
          rw [List.getElem?_take_of_lt hi2] at ht
          exact a4 t ht
      rw [List.take_add_one, e, Option.toList_some] at h1
      have := right_snoc.1 h1
      exact ⟨this.1, this.2.2.2.2⟩
    exact upto_whole hs.1 hs.2 (by have := hlt k _ (by omega) e; omega)
theorem rights_le {l : List Sy} (h : Right l) {i : Nat} {a : Sy} (ha : l[i]? = some a) : ∀ d b, l[i + d]? = some b → a.frm ≤ b.frm
  | 0, b, hb => by
    rw [Nat.add_zero, ha] at hb
    rw [← Option.some.inj hb]
    exact Int.le_refl _
  | d + 1, b, hb => by
    have hlt := (List.getElem?_eq_some_iff.1 hb).1
    have hd : i + d < l.length := by omega
    have h1 := rights_le h ha d _ (List.getElem?_eq_getElem hd)
    have h2 := rights_up h (List.getElem?_eq_getElem hd) hb
    omega
/-- Where the first one stands that is not ahead of a minute, the stays up to it end. -/
theorem upto_stop {l : List Sy} (h : Right l) (m : Int) {k : Nat} (hk : k ≤ l.length) (h0 : ∀ s, l[k]? = some s → m ≤ s.frm) : uptoS l m = uptoS (l.take k) m := by
  have h1 : uptoS (l.drop k) m = [] := by
    unfold uptoS
    have h2 : (l.drop k).filter (fun s => decide (s.frm < m)) = [] := by
      rw [List.filter_eq_nil_iff]
      intro s hs
      obtain ⟨j, hj⟩ := List.mem_iff_getElem?.1 hs
      rw [List.getElem?_drop] at hj
      have hkl : k < l.length := by
        have := (List.getElem?_eq_some_iff.1 hj).1
        omega
      have e := List.getElem?_eq_getElem hkl
      have h3 := h0 _ e
      have h4 := rights_le h e j s hj
      rw [decide_eq_true_eq]
      omega
    rw [h2]
    rfl
  have h2 : uptoS l m = uptoS (l.take k) m ++ uptoS (l.drop k) m := by
    unfold uptoS
    rw [← List.map_append, ← List.filter_append, List.take_append_drop]
  rw [h2, h1, List.append_nil]
/-- What stays up to a minute have, added. -/
def sumS (l : List Sy) : Int := l.foldl (fun n s => n + (s.to - s.frm)) 0
theorem sum_snoc (A : List Sy) (s : Sy) : sumS (A ++ [s]) = sumS A + (s.to - s.frm) := by simp [sumS]
theorem rev_ind {P : List Sy → Prop} (h0 : P []) (h1 : ∀ A s, P A → P (A ++ [s])) (l : List Sy) : P l := by
  have : ∀ k : List Sy, P k.reverse := by
    intro k
    induction k with
    | nil => exact h0
    | cons s k ih =>
      rw [List.reverse_cons]
      exact h1 _ _ ih
  have h := this l.reverse
  rwa [List.reverse_reverse] at h
theorem sum_upto (l : List Sy) (m : Int) : sumS (uptoS l m) = minutesS l m := by
  refine rev_ind (P := fun l => sumS (uptoS l m) = minutesS l m) rfl (fun A s ih => ?_) l
  rw [upto_snoc, minutes_snoc, ← ih]
  by_cases h : s.frm < m
  · rw [if_pos h, sum_snoc, minS, if_pos h, cut]
    by_cases hc : s.to = -1 ∨ m < s.to
    · rw [if_pos hc, if_pos hc]
    · rw [if_neg hc, if_neg hc]
  · rw [if_neg h, minS, if_neg h, List.append_nil, Int.add_zero]
/-- Stays that ended have at most as many minutes as lie ahead of their end. -/
theorem sum_shut : ∀ (l : List Sy), Shut l → 0 ≤ sumS l ∧ ∀ s, l.getLast? = some s → sumS l ≤ s.to := by
  intro l
  refine rev_ind (P := fun l => Shut l → 0 ≤ sumS l ∧ ∀ s, l.getLast? = some s → sumS l ≤ s.to) (fun _ => ⟨Int.le_refl _, fun s h => by cases h⟩) (fun A s ih h => ?_) l
  obtain ⟨h1, h2, h3, h4, h5⟩ := shut_snoc.1 h
  obtain ⟨i1, i2⟩ := ih h1
  rw [sum_snoc]
  have h6 : sumS A ≤ s.frm := by
    cases hl : A.getLast? with
    | none =>
      rw [List.getLast?_eq_none_iff] at hl
      subst hl
      exact h3
    | some t =>
      have := i2 t hl
      have := h5 t hl
      omega
  refine ⟨by omega, fun t ht => ?_⟩
  rw [List.getLast?_concat] at ht
  rw [← Option.some.inj ht]
  omega
theorem upto_mem {l : List Sy} {m : Int} {s : Sy} (h : s ∈ uptoS l m) : ∃ t ∈ l, t.frm < m ∧ s = cut m t := by
  unfold uptoS at h
  obtain ⟨t, ht, e⟩ := List.mem_map.1 h
  rw [List.mem_filter, decide_eq_true_eq] at ht
  exact ⟨t, ht.1, ht.2, e.symm⟩
/-- The stays up to a minute all ended, at most there. -/
theorem upto_shut {l : List Sy} (h : Right l) (m : Int) : Shut (uptoS l m) := by
  refine rev_ind (P := fun l => Right l → Shut (uptoS l m)) (fun _ => shut_nil) (fun A s ih h => ?_) l h
  obtain ⟨h1, h2, h3, h4, h5⟩ := right_snoc.1 h
  rw [upto_snoc]
  by_cases hn : s.frm < m
  · rw [if_pos hn, upto_whole h1 h5 (by omega)]
    by_cases hc : s.to = -1 ∨ m < s.to
    · rw [cut, if_pos hc]
      exact shut_snoc.2 ⟨h1, h2, h3, hn, h5⟩
    · rw [cut, if_neg hc]
      refine shut_snoc.2 ⟨h1, h2, h3, ?_, h5⟩
      rcases h4 with h4 | h4
      · exact h4
      · exact absurd (.inl h4) hc
  · rw [if_neg hn, List.append_nil]
    exact ih (shut_right h1)
theorem upto_to {l : List Sy} {m : Int} {s : Sy} (h : s ∈ uptoS l m) : s.to ≤ m ∧ s.frm < m := by
  obtain ⟨t, _, h1, rfl⟩ := upto_mem h
  unfold cut
  split
  · exact ⟨Int.le_refl _, by assumption⟩
  · exact ⟨by omega, by assumption⟩
/-- Part of what stays up to a minute have, added, is between 0 and that minute. -/
theorem sum_part {l : List Sy} (h : Right l) (m : Int) (k : Nat) : 0 ≤ sumS ((uptoS l m).take k) ∧ (sumS ((uptoS l m).take k) ≤ m ∨ sumS ((uptoS l m).take k) = 0) := by
  have h1 : Shut ((uptoS l m).take k) := by
    have h0 := upto_shut h m
    intro i s hs
    have hi : i < k := by
      have := (List.getElem?_eq_some_iff.1 hs).1
      rw [List.length_take] at this
      omega
    rw [List.getElem?_take_of_lt hi] at hs
    obtain ⟨a1, a2, a3, a4⟩ := h0 i s hs
    refine ⟨a1, a2, a3, fun t ht => ?_⟩
    have hi2 : i + 1 < k := by
      have := (List.getElem?_eq_some_iff.1 ht).1
      rw [List.length_take] at this
      omega
    rw [List.getElem?_take_of_lt hi2] at ht
    exact a4 t ht
  obtain ⟨h2, h3⟩ := sum_shut _ h1
  refine ⟨h2, ?_⟩
  cases hl : ((uptoS l m).take k).getLast? with
  | none =>
    right
    rw [List.getLast?_eq_none_iff] at hl
    rw [hl]
    rfl
  | some s =>
    left
    have h4 := h3 s hl
    have h5 := (upto_to (List.mem_of_mem_take (List.mem_of_getLast? hl))).1
    omega
/-- As the program tells them: of stays that may not be nothing. -/
def uptoV (S : List Sy) (m : Int) : List Sy := if rightB S = true then uptoS S m else []
def minutesV (S : List Sy) (m : Int) : Int := if rightB S = true then minutesS S m else 0
def zoneV (S : List Sy) (m : Int) : Int := if rightB S = true then zoneS S m else 0
end Go.Proofs.Ytkfmkchonlajpaa.Sy

namespace Go.Proofs.Ytkfmkchonlajpaa
open Go.RowKit

section
variable {α : Type} {k : Nat} {enc : α → List Value}
theorem flat_len (hk : ∀ x, (enc x).length = k) (l : List α) : (l.flatMap enc).length = l.length * k := by
  induction l with
  | nil => simp
  | cons x l ih => rw [List.flatMap_cons, List.length_append, ih, hk, List.length_cons, Nat.add_mul, Nat.one_mul, Nat.add_comm]
theorem flat_at (hk : ∀ x, (enc x).length = k) : ∀ (l : List α) (j i : Nat) (x : α), l[j]? = some x → i < k → (l.flatMap enc)[j * k + i]? = (enc x)[i]? := by
  intro l
  induction l with
  | nil =>
    intro j i x h
    simp at h
  | cons y l ih =>
    intro j i x h hi
    cases j with
    | zero =>
      simp only [List.getElem?_cons_zero, Option.some.injEq] at h
      subst h
      rw [List.flatMap_cons, Nat.zero_mul, Nat.zero_add, List.getElem?_append_left (by rw [hk]; exact hi)]
    | succ j =>
      rw [List.getElem?_cons_succ] at h
      rw [List.flatMap_cons, List.getElem?_append_right (by rw [hk, Nat.add_mul]; omega), hk, ← ih j i x h hi]
      congr 1
      rw [Nat.add_mul]
      omega
theorem flat_set (hk : ∀ x, (enc x).length = k) : ∀ (l : List α) (j i : Nat) (x x' : α) (u : Value), l[j]? = some x → i < k → enc x' = (enc x).set i u → (l.set j x').flatMap enc = (l.flatMap enc).set (j * k + i) u := by
  intro l
  induction l with
  | nil =>
    intro j i x x' u h
    simp at h
  | cons y l ih =>
    intro j i x x' u h hi he
    cases j with
    | zero =>
      simp only [List.getElem?_cons_zero, Option.some.injEq] at h
      subst h
      rw [List.set_cons_zero, List.flatMap_cons, List.flatMap_cons, he, Nat.zero_mul, Nat.zero_add, List.set_append_left _ _ (by rw [hk]; exact hi)]
    | succ j =>
      rw [List.getElem?_cons_succ] at h
      rw [List.set_cons_succ, List.flatMap_cons, List.flatMap_cons, ih j i x x' u h hi he, List.set_append_right _ _ (by rw [hk, Nat.add_mul]; omega), hk]
      congr 2
      rw [Nat.add_mul]
      omega
/-- A slice of structs that reads as a list, nil let in. -/
def Rw (k : Nat) (enc : α → List Value) (w : World) (p : Option Addr) (n : Nat) (l : List α) : Prop :=
  l.length = n ∧ (0 < n → ∃ b o, p = some ⟨b, o, none⟩ ∧ ∀ j x, l[j]? = some x → ∀ i, i < k → w.cell? ⟨b, o + j * k + i, none⟩ = (enc x)[i]?)
theorem rw_nil (w : World) : Rw k enc w none 0 [] := ⟨rfl, fun h => absurd h (by decide)⟩
theorem rw_zero (w : World) (p : Option Addr) : Rw k enc w p 0 [] := ⟨rfl, fun h => absurd h (by decide)⟩
/-- A row that the call owns reads as its list. -/
theorem rw_own (hk : ∀ x, (enc x).length = k) {w : World} {B : Nat} {e : TypeId} {v : Value} {l : List α} (h : w.ownsRow B e k v l.length (l.flatMap enc)) :
    ∃ q c, v = .slice q l.length c ∧ l.length ≤ c ∧ Rw k enc w q l.length l := by
  have h' := h
  rcases h.2 with ⟨rfl, h0⟩ | ⟨g, cap, cur, rfl, _, _, hnc, _⟩
  · exact ⟨none, 0, by rw [h0], by omega, rfl, fun h1 => by omega⟩
  · refine ⟨_, cap, rfl, hnc, rfl, fun _ => ⟨g, 0, rfl, fun j x hx i hi => ?_⟩⟩
    have hj : j < l.length := (List.getElem?_eq_some_iff.1 hx).1
    rw [Nat.zero_add, h'.cellAt (j * k + i) (by
      have : (j + 1) * k ≤ l.length * k := Nat.mul_le_mul_right k hj
      rw [Nat.add_mul] at this
      omega), flat_at hk l j i x hx hi]
theorem Rw.like {w w' : World} {p : Option Addr} {n : Nat} {l : List α} (h : Rw k enc w p n l) (hk : ∀ x, (enc x).length = k) (he : ∀ b i, b < w.heap.size → (∀ a, p = some a → a.block = b) → w'.cell? ⟨b, i, none⟩ = w.cell? ⟨b, i, none⟩) : Rw k enc w' p n l := by
  refine ⟨h.1, fun h0 => ?_⟩
  obtain ⟨b, o, rfl, hj⟩ := h.2 h0
  refine ⟨b, o, rfl, fun j x hx i hi => ?_⟩
  have hc := hj j x hx i hi
  have hlt : b < w.heap.size := by
    have hi' : i < (enc x).length := by rw [hk]; exact hi
    rw [List.getElem?_eq_getElem hi'] at hc
    exact World.block_lt_of_cell? w _ hc
  rw [he b _ hlt (fun a ha => by cases ha; rfl)]
  exact hc
theorem Rw.keep {w w' : World} {p : Option Addr} {n : Nat} {l : List α} (h : Rw k enc w p n l) (hk : ∀ x, (enc x).length = k) (hb : Below w.heap.size w w') : Rw k enc w' p n l :=
  h.like hk (fun b i hlt _ => hb.cell (p := ⟨b, i, none⟩) hlt)
theorem Rw.turn {w w' : World} {S : Nat → Prop} {p : Option Addr} {n : Nat} {l : List α} (h : Rw k enc w p n l) (hk : ∀ x, (enc x).length = k) (ht : Turn S w w') (hs : ∀ a, p = some a → ¬ S a.block) (hn : p ≠ none) : Rw k enc w' p n l := by
  refine h.like hk (fun b i hlt hp => World.cell?_of_block (a := ⟨b, i, none⟩) (ht.block b hlt (fun hS => ?_)))
  cases p with
  | none => exact hn rfl
  | some a =>
    have := hp a rfl
    subst this
    exact hs a rfl hS
theorem Rw.drewN {w : World} {p : Option Addr} {n : Nat} {l : List α} (h : Rw k enc w p n l) (m : Nat) : Rw k enc (w.drewN m) p n l := h
theorem Rw.take {w : World} {p : Option Addr} {n : Nat} {l : List α} (h : Rw k enc w p n l) (m : Nat) (hm : m ≤ n) : Rw k enc w p m (l.take m) := by
  refine ⟨by rw [List.length_take, h.1]; omega, fun h0 => ?_⟩
  obtain ⟨b, o, hp, hj⟩ := h.2 (by omega)
  refine ⟨b, o, hp, fun j x hx i hi => hj j x ?_ i hi⟩
  rw [List.getElem?_take] at hx
  split at hx
  · exact hx
  · cases hx
/-- An element's cell in a row that the call owns. -/
theorem row_cell (hk : ∀ x, (enc x).length = k) {w : World} {B g cap n : Nat} {e : TypeId} {l : List α} (h : w.ownsRow B e k (.slice (some ⟨g, 0, none⟩) n cap) n (l.flatMap enc)) (hl : l.length = n) {j : Nat} {x : α} (hx : l[j]? = some x) {i : Nat} (hi : i < k) :
    w.cell? ⟨g, j * k + i, none⟩ = (enc x)[i]? := by
  have hj : j < l.length := (List.getElem?_eq_some_iff.1 hx).1
  subst hl
  rw [h.cellAt (j * k + i) (by
    have : (j + 1) * k ≤ l.length * k := Nat.mul_le_mul_right k hj
    rw [Nat.add_mul] at this
    omega), flat_at hk l j i x hx hi]
/-- A store into an element's cell. -/
theorem row_store (hk : ∀ x, (enc x).length = k) {w : World} {B g cap n : Nat} {e : TypeId} {l : List α} (h : w.ownsRow B e k (.slice (some ⟨g, 0, none⟩) n cap) n (l.flatMap enc)) {j : Nat} {x x' : α} (hx : l[j]? = some x) {i : Nat} (hi : i < k) {u : Value} (he : enc x' = (enc x).set i u) :
    (w.setCell ⟨g, j * k + i, none⟩ u).ownsRow B e k (.slice (some ⟨g, 0, none⟩) n cap) n ((l.set j x').flatMap enc) := by
  rw [flat_set hk l j i x x' u hx hi he]
  exact (h.stored (j * k + i) u).1
theorem flat_snoc (l : List α) (x : α) : l.flatMap enc ++ enc x = (l ++ [x]).flatMap enc := by simp
end
/-- What of memory is an object's that holds one slice: its block, and its slice's. -/
def Feet (g : Nat) (v : Value) (k : Nat) : Prop := k = g ∨ v.ownBlock = some k
theorem own_some {w : World} {B : Nat} {e : TypeId} {k n : Nat} {v : Value} {xs : List Value} (h : w.ownsRow B e k v n xs) (hn : 0 < n) : ∃ b c, v = .slice (some ⟨b, 0, none⟩) n c ∧ B ≤ b ∧ b < w.heap.size ∧ n ≤ c := by
  rcases h.2 with ⟨_, h0⟩ | ⟨g, cap, cur, rfl, hb, hh, hc, _⟩
  · omega
  · exact ⟨g, cap, rfl, hb, (Array.getElem?_eq_some_iff.1 hh).1, hc⟩
end Go.Proofs.Ytkfmkchonlajpaa

namespace Go.Proofs.Ytkfmkchonlajpaa
open Go.RowKit

namespace Sy
def scells (s : Sy) : List Value := [.int .i64 s.zone, .int .i64 s.frm, .int .i64 s.to]
theorem scells_len (s : Sy) : (scells s).length = 3 := rfl
/-- The last one goes on. -/
def On (l : List Sy) : Prop := ∃ A x, l = A ++ [x] ∧ x.to = -1
/-- Where steps have led: stays, the minute, the zone (0: nowhere). -/
structure Inv (S : List Sy) (now inn : Int) : Prop where
  right : Right S
  now0 : 0 ≤ now
  goes : 0 < inn → ∃ A x, S = A ++ [x] ∧ x.to = -1 ∧ x.frm ≤ now ∧ x.zone = inn
  ended : ¬ 0 < inn → inn = 0 ∧ ∀ x, S.getLast? = some x → 0 ≤ x.to ∧ x.to ≤ now
theorem inv_start : Inv [] 0 0 := ⟨right_nil, Int.le_refl _, fun h => by omega, fun _ => ⟨rfl, fun x h => by simp at h⟩⟩
theorem inv_on {S : List Sy} {now inn d : Int} (h : Inv S now inn) (hd : 0 ≤ d) : Inv S (now + d) inn :=
  ⟨h.right, by have := h.now0; omega, fun hi => by
    obtain ⟨A, x, e, h1, h2, h3⟩ := h.goes hi
    exact ⟨A, x, e, h1, by omega, h3⟩, fun hi => ⟨(h.ended hi).1, fun x hx => by
    have := (h.ended hi).2 x hx
    omega⟩⟩
theorem inv_may {S : List Sy} {now inn : Int} (h : Inv S now inn) : May S now ↔ (0 < inn ∨ S = [] ∨ ∃ x, S.getLast? = some x ∧ x.to = now) := by
  constructor
  · intro hm
    by_cases hi : 0 < inn
    · exact .inl hi
    · right
      rcases ends_of S with rfl | ⟨A, s, rfl⟩
      · exact .inl rfl
      · right
        have hl : (A ++ [s]).getLast? = some s := List.getLast?_concat ..
        have h1 := (h.ended hi).2 s hl
        rcases may_last hm with ⟨e, _⟩ | e
        · omega
        · exact ⟨s, hl, e⟩
  · intro hc
    refine ⟨h.right, h.now0, fun s hs => ?_⟩
    rcases hc with hi | rfl | ⟨x, hx, e⟩
    · obtain ⟨A, x, e, h1, h2, _⟩ := h.goes hi
      rw [e, List.getLast?_concat] at hs
      rw [← Option.some.inj hs]
      exact .inl ⟨h1, h2⟩
    · simp at hs
    · rw [hx] at hs
      rw [← Option.some.inj hs]
      exact .inr e
theorem inv_goes {S : List Sy} {now inn : Int} (h : Inv S now inn) : On S ↔ 0 < inn := by
  constructor
  · rintro ⟨A, x, rfl, hx⟩
    by_cases hi : 0 < inn
    · exact hi
    · have := (h.ended hi).2 x (List.getLast?_concat ..)
      omega
  · intro hi
    obtain ⟨A, x, e, h1, _⟩ := h.goes hi
    exact ⟨A, x, e, h1⟩
/-- A step into a zone. -/
theorem inv_enter {S : List Sy} {now inn z : Int} (h : Inv S now inn) (hm : May S now) (hz : 1 ≤ z) :
    Inv (goS (untilS S now) z now) now z ∧ ∀ m, zoneS (goS (untilS S now) z now) m = if m < now then zoneS S m else z := by
  obtain ⟨h1, h2⟩ := until_ok hm
  obtain ⟨g1, A, x, e, gx, gf, gz⟩ := go_ok h1 h2 h.now0 hz
  refine ⟨⟨g1, h.now0, fun _ => ⟨A, x, e, gx, gf, gz⟩, fun hn => by omega⟩, fun m => ?_⟩
  rw [zone_go h1 h2]
  by_cases hm' : m < now
  · rw [if_pos hm', if_pos hm', zone_until hm hm']
  · rw [if_neg hm', if_neg hm']
/-- A step out. -/
theorem inv_leave {S : List Sy} {now inn : Int} (h : Inv S now inn) (hi : 0 < inn) :
    May S now ∧ Inv (untilS S now) now 0 ∧ ∀ m, zoneS (untilS S now) m = if m < now then zoneS S m else 0 := by
  have hm := (inv_may h).2 (.inl hi)
  obtain ⟨h1, h2⟩ := until_ok hm
  refine ⟨hm, ⟨shut_right h1, h.now0, fun hh => by omega, fun _ => ⟨rfl, fun x hx => ?_⟩⟩, fun m => ?_⟩
  · rw [h2 x hx]
    exact ⟨h.now0, Int.le_refl _⟩
  · by_cases hm' : m < now
    · rw [if_pos hm', zone_until hm hm']
    · rw [if_neg hm', zone_shut h1 h2 (by omega)]
theorem until_len (l : List Sy) (now : Int) : (untilS l now).length ≤ l.length := by
  rcases ends_of l with rfl | ⟨A, s, rfl⟩
  · exact Nat.le_refl _
  · by_cases h : s.to = -1
    · by_cases hn : s.frm < now
      · rw [until_cut h hn]
        simp
      · rw [until_drop h hn]
        simp
    · rw [until_shut h]
      exact Nat.le_refl _
theorem go_len (U : List Sy) (z now : Int) : (goS U z now).length ≤ U.length + 1 := by
  rcases ends_of U with rfl | ⟨B, u, rfl⟩
  · rw [go_nil]
    simp
  · by_cases hc : u.zone = z
    · subst hc
      rw [go_same]
      simp
    · rw [go_new hc]
      simp
def UptoEnd (U : List Sy) (w : World) (e : Ending) (w' : World) : Prop := ∃ v, e = .returned v ∧ w'.ownsRow w.heap.size 57 3 v U.length (U.flatMap scells) ∧ Below w.heap.size w w'
/-- Stays that are handed out, without an error: the call's own row. -/
def OkEnd (L : List Sy) (w : World) (e : Ending) (w' : World) : Prop := ∃ v, e = .returned (.tuple #[v, .int .i64 0]) ∧ w'.ownsRow w.heap.size 57 3 v L.length (L.flatMap scells) ∧ Below w.heap.size w w'
/-- ErrArg, and nothing. -/
def NoEnd (w : World) (e : Ending) (w' : World) : Prop := e = .returned (.tuple #[.slice none 0 0, .int .i64 1]) ∧ Below w.heap.size w w'
/-- Contracts of package stays. -/
structure Face where
  enter : ∀ (p : Option Addr) (n c : Nat) (S : List Sy) (z now : Int) (w : World), Rw 3 scells w p n S → n ≤ 1000000 → n ≤ c → May S now → 1 ≤ z → Calls Try.prog 42 #[.slice p n c, .int .i64 z, .int .i64 now] w (OkEnd (goS (untilS S now) z now) w)
  enter_no : ∀ (p : Option Addr) (n c : Nat) (S : List Sy) (z now : Int) (w : World), Rw 3 scells w p n S → n ≤ 1000000 → ¬ (May S now ∧ 1 ≤ z) → Calls Try.prog 42 #[.slice p n c, .int .i64 z, .int .i64 now] w (NoEnd w)
  right : ∀ (p : Option Addr) (n c : Nat) (S : List Sy) (w : World), Rw 3 scells w p n S → n ≤ 1000000 → Calls Try.prog 47 #[.slice p n c] w fun e w' => e = .returned (.bool (rightB S)) ∧ Below w.heap.size w w'
  upto : ∀ (p : Option Addr) (n c : Nat) (S : List Sy) (m : Int) (w : World), Rw 3 scells w p n S → n ≤ 1000000 → n ≤ c → Calls Try.prog 59 #[.slice p n c, .int .i64 m] w (UptoEnd (uptoV S m) w)
  same : ∀ (p q : Option Addr) (n m c d : Nat) (l l2 : List Sy) (w : World), Rw 3 scells w p n l → Rw 3 scells w q m l2 → n ≤ 1000000 → Calls Try.prog 60 #[.slice p n c, .slice q m d] w fun e w' => e = .returned (.bool (decide (l = l2))) ∧ Below w.heap.size w w'
end Sy
end Go.Proofs.Ytkfmkchonlajpaa

namespace Go.Proofs.Ytkfmkchonlajpaa
open Go.RowKit

namespace Lo
/-- A lot, and where its stays lie. -/
structure Lv where
  x : Lt
  p : Option Addr
  n : Nat
  c : Nat
def lval (y : Lv) : Value := .agg #[.int .i64 y.x.id, .int .i64 y.x.product, .int .i64 y.x.units, .int .i64 y.x.expiry, .int .i64 y.x.grant, .int .i64 y.x.order, .int .i64 y.x.status, .slice y.p y.n y.c]
def lcells (y : Lv) : List Value := [.int .i64 y.x.id, .int .i64 y.x.product, .int .i64 y.x.units, .int .i64 y.x.expiry, .int .i64 y.x.grant, .int .i64 y.x.order, .int .i64 y.x.status, .slice y.p y.n y.c]
theorem lcells_len (y : Lv) : (lcells y).length = 8 := rfl
/-- Its stays lie where it says. -/
def St (W : World) (y : Lv) : Prop := Rw 3 Sy.scells W y.p y.n y.x.stays ∧ y.n ≤ y.c
theorem St.len {W : World} {y : Lv} (h : St W y) : y.x.stays.length = y.n := h.1.1
theorem St.keep {w w' : World} {y : Lv} (h : St w y) (hb : Below w.heap.size w w') : St w' y := ⟨h.1.keep Sy.scells_len hb, h.2⟩
/-- Its stays' block. -/
def Bk (y : Lv) (k : Nat) : Prop := 0 < y.n ∧ ∃ a, y.p = some a ∧ a.block = k
theorem St.lt {W : World} {y : Lv} (h : St W y) {k : Nat} (hk : Bk y k) : k < W.heap.size := by
  obtain ⟨h0, a, ha, rfl⟩ := hk
  obtain ⟨b, o, e, hc⟩ := h.1.2 h0
  rw [e] at ha
  rw [← Option.some.inj ha]
  have hx := hc 0 _ (List.getElem?_eq_getElem (by rw [h.1.1]; exact h0)) 0 (by decide)
  exact World.block_lt_of_cell? W _ hx
theorem St.turn {w w' : World} {y : Lv} {T : Nat → Prop} (h : St w y) (ht : Turn T w w') (hs : ∀ k, Bk y k → ¬ T k) : St w' y := by
  refine ⟨?_, h.2⟩
  by_cases h0 : 0 < y.n
  · obtain ⟨b, o, e, _⟩ := h.1.2 h0
    exact h.1.turn Sy.scells_len ht (fun a ha => hs a.block ⟨h0, a, ha, rfl⟩) (by rw [e]; simp)
  · exact ⟨h.1.1, fun h1 => absurd h1 h0⟩
/-- The document's stock: at block g, its lots' slice v, the greatest number given. -/
structure RS (W : World) (B g : Nat) (v : Value) (given : Int) (l : List Lv) : Prop where
  base : B ≤ g
  blk : Lies W g 28 #[v, .int .i64 given]
  row : W.ownsRow B 32 8 v l.length (l.flatMap lcells)
  stays : ∀ y ∈ l, St W y
  apart : ∀ y ∈ l, ∀ k, Bk y k → k ≠ g ∧ v.ownBlock ≠ some k
def lts (l : List Lv) : List Lt := l.map Lv.x
/-- What of memory it may write into. -/
def RFoot (g : Nat) (v : Value) (k : Nat) : Prop := k = g ∨ v.ownBlock = some k
theorem RS.foot {W : World} {B g : Nat} {v : Value} {given : Int} {l : List Lv} (h : RS W B g v given l) {k : Nat} (hk : RFoot g v k) : B ≤ k ∧ k < W.heap.size := by
  rcases hk with rfl | hk
  · exact ⟨h.base, h.blk.lt⟩
  · exact own_lt h.row hk
theorem RS.turn {w w' : World} {B g : Nat} {v : Value} {given : Int} {l : List Lv} {T : Nat → Prop} (h : RS w B g v given l) (ht : Turn T w w') (hf : ∀ k, RFoot g v k → ¬ T k) (hs : ∀ y ∈ l, ∀ k, Bk y k → ¬ T k) : RS w' B g v given l :=
  ⟨h.base, h.blk.turn ht (hf g (.inl rfl)), own_turn h.row ht (fun k hk => hf k (.inr hk)), fun y hy => (h.stays y hy).turn ht (hs y hy), h.apart⟩
theorem RS.keep {w w' : World} {B g : Nat} {v : Value} {given : Int} {l : List Lv} (h : RS w B g v given l) (hb : Below w.heap.size w w') : RS w' B g v given l :=
  h.turn (T := fun _ => False) (Turn.of_below hb) (fun _ _ hf => hf) (fun _ _ _ _ hf => hf)
/-- The blocks of lots' stays. -/
def Bks (l : List Lv) (k : Nat) : Prop := ∃ y ∈ l, Bk y k
theorem bks_set {l : List Lv} {i : Nat} {y' : Lv} {k : Nat} (h : Bks (l.set i y') k) : Bks l k ∨ Bk y' k := by
  obtain ⟨z, hz, hk⟩ := h
  rcases List.mem_or_eq_of_mem_set hz with hz | rfl
  · exact .inl ⟨z, hz, hk⟩
  · exact .inr hk
theorem bks_same {l : List Lv} {i : Nat} {y y' : Lv} (hy : l[i]? = some y) (he : ∀ k, Bk y' k → Bk y k) {k : Nat} (h : Bks (l.set i y') k) : Bks l k :=
  (bks_set h).elim id (fun hk => ⟨y, List.mem_of_getElem? hy, he k hk⟩)
theorem bks_app {l : List Lv} {y : Lv} {k : Nat} (h : Bks (l ++ [y]) k) : Bks l k ∨ Bk y k := by
  obtain ⟨z, hz, hk⟩ := h
  rcases List.mem_append.1 hz with hz | hz
  · exact .inl ⟨z, hz, hk⟩
  · rw [List.mem_singleton.1 hz] at hk
    exact .inr hk
/-- What a call leaves that writes: the stock, its own blocks alone turned; what lies where no stock's block was before is new. -/
def RDone (w : World) (B g : Nat) (v : Value) (K : Nat → Prop) (given : Int) (l : List Lv) (w' : World) : Prop :=
  ∃ v', RS w' B g v' given l ∧ Turn (RFoot g v) w w' ∧ (∀ k, v'.ownBlock = some k → v.ownBlock = some k ∨ w.heap.size ≤ k) ∧ ∀ k, Bks l k → K k ∨ w.heap.size ≤ k
theorem rdone_same {w w' : World} {B g : Nat} {v : Value} {given : Int} {l : List Lv} (h : RS w B g v given l) (hb : Below w.heap.size w w') : RDone w B g v (Bks l) given l w' :=
  ⟨v, h.keep hb, Turn.of_below hb, fun _ hk => .inl hk, fun _ hk => .inl hk⟩
theorem rs_slice {W : World} {B g : Nat} {v : Value} {given : Int} {l : List Lv} (h : RS W B g v given l) : ∃ q d, v = .slice q l.length d := own_slice h.row
/-- The lot at a place: where its cells lie. -/
theorem rs_at {W : World} {B g n : Nat} {q : Option Addr} {d : Nat} {given : Int} {l : List Lv} (h : RS W B g (.slice q n d) given l) (hn : l.length = n) {i : Nat} {y : Lv} (hy : l[i]? = some y) :
    ∃ b, q = some ⟨b, 0, none⟩ ∧ B ≤ b ∧ b ≠ g ∧ ∀ W', Below W.heap.size W W' → ∀ j, j < 8 → W'.cell? ⟨b, i * 8 + j, none⟩ = (lcells y)[j]? := by
  have hr := h.row
  rw [hn] at hr
  have hi : i < n := by rw [← hn]; exact (List.getElem?_eq_some_iff.1 hy).1
  obtain ⟨b, c, e, hb1, hb2, _⟩ := own_some hr (by omega)
  injection e with e1 e2 e3
  subst e1 e3
  refine ⟨b, rfl, hb1, fun hbg => own_blk_ne hr h.blk (by decide) (by rw [hbg]; rfl), fun W' hW j hj => ?_⟩
  exact (hW.cell (p := ⟨b, i * 8 + j, none⟩) hb2).trans (row_cell lcells_len hr hn hy hj)
/-- The last stay of a lot. -/
theorem st_last {W : World} {y : Lv} (h : St W y) {m : Nat} (hm : y.n = m + 1) : ∃ s b o, y.x.stays.getLast? = some s ∧ y.p = some ⟨b, o, none⟩ ∧ ∀ W', Below W.heap.size W W' → ∀ j, j < 3 → W'.cell? ⟨b, o + m * 3 + j, none⟩ = (Sy.scells s)[j]? := by
  have hl := h.len
  obtain ⟨s, hs⟩ : ∃ s, y.x.stays[m]? = some s := ⟨_, List.getElem?_eq_getElem (by rw [hl]; omega)⟩
  obtain ⟨b, o, e, hc⟩ := h.1.2 (by omega)
  refine ⟨s, b, o, by rw [List.getLast?_eq_getElem?, hl, hm, Nat.add_sub_cancel]; exact hs, e, fun W' hW j hj => ?_⟩
  have h0 := hc m s hs j hj
  refine (hW.cell (p := ⟨b, o + m * 3 + j, none⟩) ?_).trans h0
  rw [List.getElem?_eq_getElem (by rw [Sy.scells_len]; exact hj)] at h0
  exact World.block_lt_of_cell? W _ h0
end Lo
end Go.Proofs.Ytkfmkchonlajpaa

namespace Go.Proofs.Ytkfmkchonlajpaa.Lo

/-- A stock as it may be, and how many stays a lot of it has at most. -/
def GoodM (s : Stk) (m : Nat) : Prop := Good s ∧ ∀ x ∈ s.1, x.stays.length ≤ m
theorem goodM_nil : GoodM ([], 0) 0 := ⟨good_nil, fun x hx => by simp at hx⟩
theorem GoodM.mono {s : Stk} {m k : Nat} (h : GoodM s m) (hm : m ≤ k) : GoodM s k := ⟨h.1, fun x hx => Nat.le_trans (h.2 x hx) hm⟩
theorem sum_set : ∀ {l : List Lt} {i : Nat} {x x' : Lt}, l[i]? = some x → ((l.set i x').map Lt.units).sum = (l.map Lt.units).sum - x.units + x'.units
  | [], i, x, x', h => by simp at h
  | y :: l, 0, x, x', h => by
    rw [List.getElem?_cons_zero] at h
    rw [Option.some.inj h]
    simp
    omega
  | y :: l, i + 1, x, x', h => by
    rw [List.getElem?_cons_succ] at h
    have := sum_set (x' := x') h
    simp only [List.set_cons_succ, List.map_cons, List.sum_cons]
    omega
theorem sum_erase : ∀ {l : List Lt} {i : Nat} {x : Lt}, l[i]? = some x → ((l.eraseIdx i).map Lt.units).sum = (l.map Lt.units).sum - x.units
  | [], i, x, h => by simp at h
  | y :: l, 0, x, h => by
    rw [List.getElem?_cons_zero] at h
    rw [Option.some.inj h]
    simp
    omega
  | y :: l, i + 1, x, h => by
    rw [List.getElem?_cons_succ] at h
    have := sum_erase h
    simp only [List.eraseIdx_cons_succ, List.map_cons, List.sum_cons]
    omega
theorem ids_set {l : List Lt} {i : Nat} {x x' : Lt} (hx : l[i]? = some x) (he : x'.id = x.id) (h : l.Pairwise fun a b => a.id < b.id) : (l.set i x').Pairwise fun a b => a.id < b.id := by
  have e : (l.set i x').map Lt.id = l.map Lt.id := by
    apply List.ext_getElem?
    intro j
    rw [List.map_set, List.getElem?_set]
    split
    · rename_i e
      subst e
      split
      · rw [List.getElem?_map, hx, he]
        rfl
      · rename_i hn
        rw [List.length_map] at hn
        exact absurd (List.getElem?_eq_some_iff.1 hx).1 hn
    · rfl
  have h1 : (l.map Lt.id).Pairwise (· < ·) := List.pairwise_map.2 h
  rw [← e] at h1
  exact List.pairwise_map.1 h1
/-- A lot is another, of the same number. -/
theorem good_set {s : Stk} {m : Nat} {i : Nat} {x x' : Lt} (h : GoodM s m) (hx : s.1[i]? = some x) (he : x'.id = x.id) (hu : 1 ≤ x'.units) (hs : (s.1.map Lt.units).sum - x.units + x'.units ≤ s.2 * 1048576) (hl : x'.stays.length ≤ m + 1) (hm : m < 100000) :
    GoodM (s.1.set i x', s.2) (m + 1) := by
  have hxm := List.mem_of_getElem? hx
  refine ⟨⟨ids_set hx he h.1.ids, fun y hy => ?_, h.1.given, fun y hy => ?_, ?_, fun y hy => ?_⟩, fun y hy => ?_⟩
  · rcases List.mem_or_eq_of_mem_set hy with hy | rfl
    · exact h.1.low y hy
    · rw [he]
      exact h.1.low x hxm
  · rcases List.mem_or_eq_of_mem_set hy with hy | rfl
    · exact h.1.units y hy
    · exact hu
  · rw [sum_set hx]
    exact hs
  · rcases List.mem_or_eq_of_mem_set hy with hy | rfl
    · exact h.1.long y hy
    · omega
  · rcases List.mem_or_eq_of_mem_set hy with hy | rfl
    · exact Nat.le_succ_of_le (h.2 y hy)
    · exact hl
/-- The same, and as many units. -/
theorem good_same {s : Stk} {m : Nat} {i : Nat} {x x' : Lt} (h : GoodM s m) (hx : s.1[i]? = some x) (he : x'.id = x.id) (hu : x'.units = x.units) (hl : x'.stays.length ≤ m + 1) (hm : m < 100000) : GoodM (s.1.set i x', s.2) (m + 1) := by
  have h1 := h.1.units x (List.mem_of_getElem? hx)
  have h2 := h.1.sum
  exact good_set h hx he (by omega) (by omega) hl hm
/-- One more lot, of a greater number. -/
theorem good_snoc {s : Stk} {m : Nat} {x : Lt} (h : GoodM s m) (hi : s.2 < x.id) (h2 : x.id ≤ 256) (hu : 1 ≤ x.units) (hs : (s.1.map Lt.units).sum + x.units ≤ x.id * 1048576) (hl : x.stays.length ≤ m + 1) (hm : m < 100000) : GoodM (s.1 ++ [x], x.id) (m + 1) := by
  have hg := h.1.given
  refine ⟨⟨?_, fun y hy => ?_, ⟨by simp only; omega, by simpa using h2⟩, fun y hy => ?_, ?_, fun y hy => ?_⟩, fun y hy => ?_⟩
  · refine List.pairwise_append.2 ⟨h.1.ids, List.pairwise_singleton _ _, fun a ha b hb => ?_⟩
    rw [List.mem_singleton.1 hb]
    have := (h.1.low a ha).2
    omega
  · rcases List.mem_append.1 hy with hy | hy
    · have := h.1.low y hy
      exact ⟨this.1, by simp only; omega⟩
    · rw [List.mem_singleton.1 hy]
      exact ⟨by omega, by simp⟩
  · rcases List.mem_append.1 hy with hy | hy
    · exact h.1.units y hy
    · rw [List.mem_singleton.1 hy]
      exact hu
  · simp only [List.map_append, List.map_cons, List.map_nil, List.sum_append, List.sum_cons, List.sum_nil]
    omega
  · rcases List.mem_append.1 hy with hy | hy
    · exact h.1.long y hy
    · rw [List.mem_singleton.1 hy]
      omega
  · rcases List.mem_append.1 hy with hy | hy
    · exact Nat.le_succ_of_le (h.2 y hy)
    · rw [List.mem_singleton.1 hy]
      exact hl
theorem good_erase {s : Stk} {m : Nat} {k : Nat} {y : Lt} (h : GoodM s m) (hy : s.1[k]? = some y) : GoodM (s.1.eraseIdx k, s.2) m := by
  have h1 := h.1.units y (List.mem_of_getElem? hy)
  have h2 := h.1.sum
  have hm : ∀ x ∈ s.1.eraseIdx k, x ∈ s.1 := fun x hx => List.mem_of_mem_eraseIdx hx
  refine ⟨⟨h.1.ids.sublist (List.eraseIdx_sublist ..), fun x hx => h.1.low x (hm x hx), h.1.given, fun x hx => h.1.units x (hm x hx), ?_, fun x hx => h.1.long x (hm x hx)⟩, fun x hx => h.2 x (hm x hx)⟩
  rw [sum_erase hy]
  omega
theorem last_pos {S : List Sy.Sy} {u : Sy.Sy} (h : S.getLast? = some u) : 0 < S.length := by
  cases S with
  | nil => cases h
  | cons a S => simp
theorem until_len (S : List Sy.Sy) (t : Int) : (Sy.untilS S t).length ≤ S.length := by
  unfold Sy.untilS
  cases hs : S.getLast? with
  | none => exact Nat.le_refl _
  | some u =>
    have := last_pos hs
    dsimp only
    split
    · split
      · rw [List.length_append, List.length_dropLast, List.length_singleton]
        omega
      · rw [List.length_dropLast]
        omega
    · exact Nat.le_refl _
theorem go_len (S : List Sy.Sy) (z t : Int) : (Sy.goS S z t).length ≤ S.length + 1 := by
  unfold Sy.goS
  cases hs : S.getLast? with
  | none => simp
  | some u =>
    have := last_pos hs
    dsimp only
    split
    · rw [List.length_append, List.length_dropLast, List.length_singleton]
      omega
    · simp
theorem good_recv {Z : List Ms.Zn} {P : List Ms.Pd} {s : Stk} {m : Nat} (product zone units expiry now : Int) (h : GoodM s m) (hm : m < 100000) : GoodM (recvS Z P s product zone units expiry now).2 (m + 1) := by
  have hg := h.1.given
  have hs := h.1.sum
  unfold recvS
  cases hk : recvOk units expiry now with
  | false => exact h.mono (by omega)
  | true =>
    rw [if_neg (by decide)]
    split
    · split
      · exact h.mono (by omega)
      · rename_i hn
        simp only [recvOk, Bool.and_eq_true, decide_eq_true_eq] at hk
        exact good_snoc (x := ⟨s.2 + 1, product, units, expiry, 0, 0, 0, [⟨zone, now, -1⟩]⟩) h (by simp only; omega) (by simp only; omega) hk.1 (by simp only; omega) (by simp) hm
    · exact h.mono (by omega)
theorem good_move {Z : List Ms.Zn} {s : Stk} {m : Nat} (id zone now : Int) (h : GoodM s m) (hm : m < 100000) : GoodM (moveS Z s id zone now).2 (m + 1) := by
  unfold moveS
  split
  · split
    · rename_i x hx
      repeat' split
      all_goals first
        | exact h.mono (by omega)
        | exact good_same h hx rfl rfl (by
            have h1 := h.2 x (List.mem_of_getElem? hx)
            have h2 := until_len x.stays now
            have h3 := go_len (Sy.untilS x.stays now) zone now
            simp only
            omega) hm
    · exact h.mono (by omega)
  · exact h.mono (by omega)
theorem good_split {s : Stk} {m : Nat} (id units : Int) (h : GoodM s m) (hm : m + 1 < 100000) : GoodM (splitS s id units).2 (m + 2) := by
  have hg := h.1.given
  have hs := h.1.sum
  unfold splitS
  split
  · split
    · rename_i x hx
      have hxl := h.2 x (List.mem_of_getElem? hx)
      split
      · exact h.mono (by omega)
      · split
        · exact h.mono (by omega)
        · split
          · exact h.mono (by omega)
          · rename_i h1 _ h3
            have hG := good_set (x' := { x with units := x.units - units }) h hx rfl (by simp only; omega) (by simp only; omega) (by simp only; omega) (by omega)
            exact good_snoc (x := { x with id := s.2 + 1, units := units }) hG (by simp only; omega) (by simp only; omega) (by simp only; omega) (by
              simp only
              rw [sum_set hx]
              simp only
              omega) (by simp only; omega) hm
    · exact h.mono (by omega)
  · exact h.mono (by omega)
theorem good_merge {s : Stk} {m : Nat} (into frm : Int) (h : GoodM s m) : GoodM (mergeS s into frm).2 (m + 1) := by
  unfold mergeS
  split
  · rename_i i k _ _
    split
    · rename_i x y hx hy
      split
      · exact h.mono (by omega)
      · rename_i hik
        split
        · exact h.mono (by omega)
        · split
          · exact h.mono (by omega)
          · have hxl := h.2 x (List.mem_of_getElem? hx)
            have hu := h.1.units x (List.mem_of_getElem? hx)
            have hv := h.1.units y (List.mem_of_getElem? hy)
            have hs := h.1.sum
            have hy2 : (s.1.set i { x with units := x.units + y.units })[k]? = some y := by rw [List.getElem?_set_ne hik]; exact hy
            have hsum := sum_erase hy2
            rw [sum_set hx] at hsum
            simp only at hsum
            have hxm := List.mem_of_getElem? hx
            have hmem : ∀ z ∈ (s.1.set i { x with units := x.units + y.units }).eraseIdx k, z ∈ s.1 ∨ z = { x with units := x.units + y.units } := fun z hz => List.mem_or_eq_of_mem_set (List.mem_of_mem_eraseIdx hz)
            refine ⟨⟨(ids_set (x' := { x with units := x.units + y.units }) hx rfl h.1.ids).sublist (List.eraseIdx_sublist ..), fun z hz => ?_, h.1.given, fun z hz => ?_, by simp only; rw [hsum]; omega, fun z hz => ?_⟩, fun z hz => ?_⟩
            · rcases hmem z hz with hz | rfl
              · exact h.1.low z hz
              · exact h.1.low x hxm
            · rcases hmem z hz with hz | rfl
              · exact h.1.units z hz
              · simp only
                omega
            · rcases hmem z hz with hz | rfl
              · exact h.1.long z hz
              · exact h.1.long x hxm
            · rcases hmem z hz with hz | rfl
              · exact Nat.le_succ_of_le (h.2 z hz)
              · exact Nat.le_succ_of_le hxl
    · exact h.mono (by omega)
  · exact h.mono (by omega)
theorem good_mark {s : Stk} {m : Nat} (id st order grant : Int) (h : GoodM s m) (hm : m < 100000) : GoodM (markS s id st order grant).2 (m + 1) := by
  unfold markS
  split
  · split
    · rename_i x hx
      have hxl := h.2 x (List.mem_of_getElem? hx)
      split
      · exact h.mono (by omega)
      · exact good_same h hx rfl rfl (by simp only; omega) hm
    · exact h.mono (by omega)
  · exact h.mono (by omega)
theorem good_leave {s : Stk} {m : Nat} (id now : Int) (h : GoodM s m) (hm : m < 100000) : GoodM (leaveS s id now).2 (m + 1) := by
  unfold leaveS
  split
  · split
    · rename_i x hx
      have hxl := h.2 x (List.mem_of_getElem? hx)
      have hu := until_len x.stays now
      split
      · exact good_same h hx rfl rfl (by simp only; omega) hm
      · exact h.mono (by omega)
    · exact h.mono (by omega)
  · exact h.mono (by omega)
theorem good_put {s : Stk} {m : Nat} {x : Lt} (h : GoodM s m) (hm : m < 100000) (hl : x.stays.length ≤ m + 1) : GoodM (putS s x).2 (m + 1) := by
  have hg := h.1.given
  have hs := h.1.sum
  unfold putS
  split
  · rename_i hk
    simp only [putOk, decide_eq_true_eq] at hk
    exact good_snoc h hk.1 hk.2.1 hk.2.2.1 (by omega) hl hm
  · exact h.mono (by omega)
theorem good_give {s : Stk} {m : Nat} (id : Int) (h : GoodM s m) : GoodM (giveS s id).2 m := by
  have hg := h.1.given
  have hs := h.1.sum
  unfold giveS
  split
  · exact h
  · exact ⟨⟨h.1.ids, fun x hx => ⟨(h.1.low x hx).1, by have := (h.1.low x hx).2; simp only; omega⟩, ⟨by simp only; omega, by simp only; omega⟩, h.1.units, by simp only; omega, h.1.long⟩, h.2⟩
end Go.Proofs.Ytkfmkchonlajpaa.Lo
