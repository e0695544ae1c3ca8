/- Zones, products, and lists in the order of a number: plain words. No condition but those written. -/
namespace Go.Proofs.Ytclpdemhfbjliaa.Ms

structure Zn where
  id : Int
  worst : Int
  gap : Int
  room : Int
  dock : Bool
  ajar : Int
structure Pd where
  id : Int
  limit : Int
  budget : Int
theorem zn_ext {a b : Zn} (h : a.id = b.id ∧ a.worst = b.worst ∧ a.gap = b.gap ∧ a.room = b.room ∧ a.dock = b.dock ∧ a.ajar = b.ajar) : a = b := by
  obtain ⟨a1, a2, a3, a4, a5, a6⟩ := a
  obtain ⟨b1, b2, b3, b4, b5, b6⟩ := b
  obtain ⟨rfl, rfl, rfl, rfl, rfl, rfl⟩ := h
  rfl
theorem pd_ext {a b : Pd} (h : a.id = b.id ∧ a.limit = b.limit ∧ a.budget = b.budget) : a = b := by
  obtain ⟨a1, a2, a3⟩ := a
  obtain ⟨b1, b2, b3⟩ := b
  obtain ⟨rfl, rfl, rfl⟩ := h
  rfl
instance : DecidableEq Zn := fun a b =>
  if h : a.id = b.id ∧ a.worst = b.worst ∧ a.gap = b.gap ∧ a.room = b.room ∧ a.dock = b.dock ∧ a.ajar = b.ajar then isTrue (zn_ext h) else isFalse (fun e => h (by subst e; exact ⟨rfl, rfl, rfl, rfl, rfl, rfl⟩))
instance : DecidableEq Pd := fun a b =>
  if h : a.id = b.id ∧ a.limit = b.limit ∧ a.budget = b.budget then isTrue (pd_ext h) else isFalse (fun e => h (by subst e; exact ⟨rfl, rfl, rfl⟩))
/-- Is a number from one up to another one? -/
def ft (n a b : Int) : Bool := decide (a ≤ n) && decide (n ≤ b)
theorem ft_t {n a b : Int} : ft n a b = true ↔ a ≤ n ∧ n ≤ b := by simp [ft]
theorem ft_f {n a b : Int} : ft n a b = false ↔ ¬ (a ≤ n ∧ n ≤ b) := by rw [← ft_t]; simp
/-- May a zone, or a product, be? -/
def rightZ (z : Zn) : Bool := ft z.id 1 16 && (ft z.worst (-1099511627776) 1099511627776 && (ft z.gap 0 1048575 && (ft z.room 0 1048576 && ft z.ajar 0 1048575)))
def rightP (p : Pd) : Bool := ft p.id 1 16 && (ft p.limit (-1099511627776) 1099511627776 && ft p.budget 0 4611686018427387904)

section
variable {α : Type} (key : α → Int)
/-- In order. -/
def Ord (S : List α) : Prop := S.Pairwise fun a b => key a < key b
/-- The one of a number. -/
def findK (n : Int) : List α → Option α
  | [] => none
  | y :: l => if key y = n then some y else findK n l
/-- One more, ahead of the first one that is greater. -/
def ins (x : α) : List α → List α
  | [] => [x]
  | y :: l => if key x < key y then x :: y :: l else y :: ins x l
/-- One is added: the error, and what there is then. -/
def addL (S : List α) (x : α) : Nat × List α := match findK key (key x) S with | some _ => (6, S) | none => (0, ins key x S)
variable {key}
theorem find_some {n : Int} {y : α} : ∀ {S : List α}, findK key n S = some y → y ∈ S ∧ key y = n
  | [], h => by simp [findK] at h
  | z :: l, h => by
    unfold findK at h
    by_cases hz : key z = n
    · rw [if_pos hz] at h
      obtain rfl := Option.some.inj h
      exact ⟨by simp, hz⟩
    · rw [if_neg hz] at h
      obtain ⟨h1, h2⟩ := find_some h
      exact ⟨List.mem_cons_of_mem _ h1, h2⟩
theorem find_none {n : Int} : ∀ {S : List α}, findK key n S = none ↔ ∀ y ∈ S, key y ≠ n
  | [] => by simp [findK]
  | z :: l => by
    unfold findK
    by_cases hz : key z = n
    · rw [if_pos hz]
      simp [hz]
    · rw [if_neg hz, find_none]
      simp [hz]
theorem ord_key {S : List α} (h : Ord key S) {x y : α} (hx : x ∈ S) (hy : y ∈ S) (e : key x = key y) : x = y := by
  obtain ⟨i, hi, rfl⟩ := List.mem_iff_getElem.1 hx
  obtain ⟨j, hj, rfl⟩ := List.mem_iff_getElem.1 hy
  rcases Nat.lt_trichotomy i j with hij | hij | hij
  · have := List.pairwise_iff_getElem.1 h i j hi hj hij
    omega
  · subst hij
    rfl
  · have := List.pairwise_iff_getElem.1 h j i hj hi hij
    omega
theorem find_mem {S : List α} (h : Ord key S) {y : α} (hy : y ∈ S) : findK key (key y) S = some y := by
  cases hf : findK key (key y) S with
  | none => exact absurd rfl (find_none.1 hf y hy)
  | some z =>
    obtain ⟨h1, h2⟩ := find_some hf
    rw [ord_key h h1 hy h2]
theorem ins_mem {x y : α} : ∀ {S : List α}, y ∈ ins key x S ↔ y = x ∨ y ∈ S
  | [] => by simp [ins]
  | z :: l => by
    unfold ins
    by_cases hz : key x < key z
    · rw [if_pos hz]
      simp
    · rw [if_neg hz, List.mem_cons, ins_mem, List.mem_cons]
      constructor
      · rintro (h | h | h)
        · exact .inr (.inl h)
        · exact .inl h
        · exact .inr (.inr h)
      · rintro (h | h | h)
        · exact .inr (.inl h)
        · exact .inl h
        · exact .inr (.inr h)
theorem ins_len {x : α} : ∀ {S : List α}, (ins key x S).length = S.length + 1
  | [] => rfl
  | z :: l => by
    unfold ins
    by_cases hz : key x < key z
    · rw [if_pos hz]
      simp
    · rw [if_neg hz, List.length_cons, ins_len, List.length_cons]
theorem ins_ord {x : α} : ∀ {S : List α}, Ord key S → (∀ y ∈ S, key y ≠ key x) → Ord key (ins key x S)
  | [], _, _ => by simp [ins, Ord]
  | z :: l, h, hn => by
    obtain ⟨h1, h2⟩ := List.pairwise_cons.1 h
    unfold ins
    by_cases hz : key x < key z
    · rw [if_pos hz]
      refine List.pairwise_cons.2 ⟨fun y hy => ?_, h⟩
      rcases List.mem_cons.1 hy with rfl | hy
      · exact hz
      · have := h1 y hy
        omega
    · rw [if_neg hz]
      refine List.pairwise_cons.2 ⟨fun y hy => ?_, ins_ord h2 (fun y hy => hn y (List.mem_cons_of_mem _ hy))⟩
      rcases ins_mem.1 hy with rfl | hy
      · have := hn z (by simp)
        omega
      · exact h1 y hy
/-- Ahead of the first one that is greater: those that were gone through. -/
theorem ins_here {x y : α} : ∀ {A : List α} (B : List α), (∀ z ∈ A, ¬ key x < key z) → key x < key y → ins key x (A ++ y :: B) = A ++ x :: y :: B
  | [], B, _, hy => by
    rw [List.nil_append, ins, if_pos hy]
    rfl
  | z :: A, B, hA, hy => by
    rw [List.cons_append, ins, if_neg (hA z (by simp)), ins_here B (fun u hu => hA u (List.mem_cons_of_mem _ hu)) hy]
    rfl
theorem ins_more {x : α} {B : List α} : ∀ {A : List α}, (∃ z ∈ A, key x < key z) → ins key x (A ++ B) = ins key x A ++ B
  | [], h => by simp at h
  | z :: A, h => by
    by_cases hz : key x < key z
    · rw [List.cons_append, ins, if_pos hz, ins, if_pos hz]
      rfl
    · obtain ⟨u, hu, hu2⟩ := h
      rcases List.mem_cons.1 hu with rfl | hu
      · exact absurd hu2 hz
      · rw [List.cons_append, ins, if_neg hz, ins, if_neg hz, ins_more ⟨u, hu, hu2⟩]
        rfl
theorem ins_end {x : α} : ∀ {A : List α}, (∀ z ∈ A, ¬ key x < key z) → ins key x A = A ++ [x]
  | [], _ => rfl
  | z :: A, h => by
    rw [ins, if_neg (h z (by simp)), ins_end (fun u hu => h u (List.mem_cons_of_mem _ hu))]
    rfl
theorem add_ord {S : List α} {x : α} (h : Ord key S) : Ord key (addL key S x).2 := by
  unfold addL
  cases hf : findK key (key x) S with
  | some y => exact h
  | none => exact ins_ord h (find_none.1 hf)
theorem add_len {S : List α} {x : α} : (addL key S x).2.length ≤ S.length + 1 := by
  unfold addL
  cases hf : findK key (key x) S with
  | some y => exact Nat.le_succ _
  | none => exact Nat.le_of_eq ins_len
theorem ord_nil : Ord key [] := List.Pairwise.nil
/-- How far one has gone: what has been laid down, and whether the new one is in it. -/
def Far (x : α) (S : List α) (k : Nat) (done : Bool) (out : List α) : Prop :=
  (∀ y ∈ S.take k, key y ≠ key x) ∧ ((done = true ∧ out = ins key x (S.take k) ∧ ∃ z ∈ S.take k, key x < key z) ∨ (done = false ∧ out = S.take k ∧ ∀ z ∈ S.take k, ¬ key x < key z))
theorem far_start (x : α) (S : List α) : Far (key := key) x S 0 false [] := ⟨by simp, .inr ⟨rfl, rfl, by simp⟩⟩
theorem take_one {S : List α} {k : Nat} {y : α} (hy : S[k]? = some y) : S.take (k + 1) = S.take k ++ [y] := by rw [List.take_add_one, hy]; rfl
theorem far_done {x : α} {S : List α} {k : Nat} {out : List α} {y : α} (h : Far (key := key) x S k true out) (hy : S[k]? = some y) (hn : key y ≠ key x) : Far (key := key) x S (k + 1) true (out ++ [y]) := by
  obtain ⟨h1, h2 | ⟨h2, _⟩⟩ := h
  · refine ⟨fun z hz => ?_, .inl ⟨rfl, ?_, ?_⟩⟩
    · rw [take_one hy] at hz
      rcases List.mem_append.1 hz with hz | hz
      · exact h1 z hz
      · rw [List.mem_singleton.1 hz]
        exact hn
    · rw [take_one hy, ins_more h2.2.2, h2.2.1]
    · obtain ⟨z, hz, hl⟩ := h2.2.2
      exact ⟨z, by rw [take_one hy]; exact List.mem_append_left _ hz, hl⟩
  · cases h2
theorem far_here {x : α} {S : List α} {k : Nat} {out : List α} {y : α} (h : Far (key := key) x S k false out) (hy : S[k]? = some y) (hl : key x < key y) : Far (key := key) x S (k + 1) true (out ++ [x] ++ [y]) := by
  obtain ⟨h1, ⟨h2, _⟩ | h2⟩ := h
  · cases h2
  · refine ⟨fun z hz => ?_, .inl ⟨rfl, ?_, ?_⟩⟩
    · rw [take_one hy] at hz
      rcases List.mem_append.1 hz with hz | hz
      · exact h1 z hz
      · rw [List.mem_singleton.1 hz]
        omega
    · rw [take_one hy, ins_here [] h2.2.2 hl, h2.2.1]
      simp
    · exact ⟨y, by rw [take_one hy]; simp, hl⟩
theorem far_not {x : α} {S : List α} {k : Nat} {out : List α} {y : α} (h : Far (key := key) x S k false out) (hy : S[k]? = some y) (hn : key y ≠ key x) (hl : ¬ key x < key y) : Far (key := key) x S (k + 1) false (out ++ [y]) := by
  obtain ⟨h1, ⟨h2, _⟩ | h2⟩ := h
  · cases h2
  · refine ⟨fun z hz => ?_, .inr ⟨rfl, by rw [take_one hy, h2.2.1], fun z hz => ?_⟩⟩
    · rw [take_one hy] at hz
      rcases List.mem_append.1 hz with hz | hz
      · exact h1 z hz
      · rw [List.mem_singleton.1 hz]
        exact hn
    · rw [take_one hy] at hz
      rcases List.mem_append.1 hz with hz | hz
      · exact h2.2.2 z hz
      · rw [List.mem_singleton.1 hz]
        exact hl
/-- Gone through whole. -/
theorem far_end {x : α} {S : List α} {out : List α} {done : Bool} (h : Far (key := key) x S S.length done out) : addL key S x = (0, if done then out else out ++ [x]) := by
  obtain ⟨h1, h2⟩ := h
  rw [List.take_length] at h1 h2
  unfold addL
  rw [find_none.2 h1]
  simp only
  rcases h2 with ⟨rfl, h3, _⟩ | ⟨rfl, h3, h4⟩
  · rw [if_pos rfl, h3]
  · rw [if_neg (by decide), h3, ins_end h4]
theorem far_twice {x : α} {S : List α} {k : Nat} {done : Bool} {out : List α} {y : α} (_ : Far (key := key) x S k done out) (hy : S[k]? = some y) (he : key y = key x) : addL key S x = (6, S) := by
  unfold addL
  cases hf : findK key (key x) S with
  | some z => rfl
  | none => exact absurd he (find_none.1 hf y (List.mem_of_getElem? hy))
theorem far_len {x : α} {S : List α} {k : Nat} {done : Bool} {out : List α} (h : Far (key := key) x S k done out) : out.length ≤ k + 1 := by
  have ht : (S.take k).length ≤ k := by simp; omega
  obtain ⟨_, ⟨_, h2, _⟩ | ⟨_, h2, _⟩⟩ := h
  · rw [h2, ins_len]
    omega
  · rw [h2]
    omega
theorem far_len0 {x : α} {S : List α} {k : Nat} {out : List α} (h : Far (key := key) x S k false out) : out.length ≤ k := by
  have ht : (S.take k).length ≤ k := by simp; omega
  obtain ⟨_, ⟨h2, _⟩ | ⟨_, h2, _⟩⟩ := h
  · cases h2
  · rw [h2]
    omega
/-- Looked for, one by one. -/
theorem find_skip {n : Int} {S : List α} {k : Nat} (h : ∀ y ∈ S.take k, key y ≠ n) : findK key n S = findK key n (S.drop k) := by
  induction S generalizing k with
  | nil => simp
  | cons z l ih =>
    cases k with
    | zero => rfl
    | succ k =>
      rw [List.take_succ_cons] at h
      rw [findK, if_neg (h z (by simp)), List.drop_succ_cons]
      exact ih (fun y hy => h y (List.mem_cons_of_mem _ hy))
theorem find_at {n : Int} {S : List α} {k : Nat} {y : α} (h : ∀ y ∈ S.take k, key y ≠ n) (hy : S[k]? = some y) (he : key y = n) : findK key n S = some y := by
  rw [find_skip h]
  have : S.drop k = y :: S.drop (k + 1) := by
    obtain ⟨hk, rfl⟩ := List.getElem?_eq_some_iff.1 hy
    exact List.drop_eq_getElem_cons hk
  rw [this, findK, if_pos he]
theorem not_next {n : Int} {S : List α} {k : Nat} {y : α} (h : ∀ y ∈ S.take k, key y ≠ n) (hy : S[k]? = some y) (he : key y ≠ n) : ∀ z ∈ S.take (k + 1), key z ≠ n := by
  intro z hz
  rw [take_one hy] at hz
  rcases List.mem_append.1 hz with hz | hz
  · exact h z hz
  · rw [List.mem_singleton.1 hz]
    exact he
end
/-- A zone, a product, is added. -/
def addZ (S : List Zn) (z : Zn) : Nat × List Zn := if rightZ z then addL Zn.id S z else (1, S)
def addP (S : List Pd) (p : Pd) : Nat × List Pd := if rightP p then addL Pd.id S p else (1, S)
def zn0 : Zn := ⟨0, 0, 0, 0, false, 0⟩
def pd0 : Pd := ⟨0, 0, 0⟩
/-- The one of a number, or the error. -/
def getK {α : Type} (o : Option α) (z : α) : α × Nat := match o with | some x => (x, 0) | none => (z, 5)
theorem addZ_ord {S : List Zn} {z : Zn} (h : Ord Zn.id S) : Ord Zn.id (addZ S z).2 := by
  unfold addZ
  split
  · exact add_ord h
  · exact h
theorem addP_ord {S : List Pd} {p : Pd} (h : Ord Pd.id S) : Ord Pd.id (addP S p).2 := by
  unfold addP
  split
  · exact add_ord h
  · exact h
theorem addZ_len {S : List Zn} {z : Zn} : (addZ S z).2.length ≤ S.length + 1 := by
  unfold addZ
  split
  · exact add_len
  · exact Nat.le_succ _
theorem addP_len {S : List Pd} {p : Pd} : (addP S p).2.length ≤ S.length + 1 := by
  unfold addP
  split
  · exact add_len
  · exact Nat.le_succ _
end Go.Proofs.Ytclpdemhfbjliaa.Ms
