/- Lots in plain words: a stock, and what is done to it. No condition but those written. -/
import Derived.Test.YtclpdemhfbjliaaSyGo
import Derived.Test.YtclpdemhfbjliaaMsNum
namespace Go.Proofs.Ytclpdemhfbjliaa.Lo

/-- A lot. -/
structure Lt where
  id : Int
  product : Int
  units : Int
  expiry : Int
  grant : Int
  order : Int
  status : Int
  stays : List Sy.Sy
  deriving DecidableEq
/-- The zone where it is; 0: none. -/
def inL (x : Lt) : Int := match x.stays.getLast? with
  | some s => if s.to = -1 then s.zone else 0
  | none => 0
/-- What it adds to a zone's load. -/
def addL (z : Int) (x : Lt) : Int := if inL x = z ∧ z ≠ 0 then x.units else 0
def loadL (l : List Lt) (z : Int) : Int := l.foldl (fun n x => n + addL z x) 0
theorem load_snoc (l : List Lt) (x : Lt) (z : Int) : loadL (l ++ [x]) z = loadL l z + addL z x := by simp [loadL]
/-- Its place; none: there is none. -/
def at_ (id : Int) : List Lt → Option Nat
  | [] => none
  | x :: l => if x.id = id then some 0 else (at_ id l).map (· + 1)
theorem at_some {id : Int} : ∀ {l : List Lt} {i : Nat}, at_ id l = some i → ∃ x, l[i]? = some x ∧ x.id = id
  | [], i, h => by simp [at_] at h
  | x :: l, i, h => by
    unfold at_ at h
    by_cases hx : x.id = id
    · rw [if_pos hx] at h
      rw [← Option.some.inj h]
      exact ⟨x, rfl, hx⟩
    · rw [if_neg hx, Option.map_eq_some_iff] at h
      obtain ⟨j, hj, rfl⟩ := h
      obtain ⟨y, hy, e⟩ := at_some hj
      exact ⟨y, by rw [List.getElem?_cons_succ]; exact hy, e⟩
theorem at_none {id : Int} : ∀ {l : List Lt}, at_ id l = none ↔ ∀ x ∈ l, x.id ≠ id
  | [] => by simp [at_]
  | x :: l => by
    unfold at_
    by_cases hx : x.id = id
    · rw [if_pos hx]
      simp [hx]
    · rw [if_neg hx, Option.map_eq_none_iff, at_none]
      simp [hx]
theorem at_first {id : Int} : ∀ {l : List Lt} {i : Nat} {x : Lt}, l[i]? = some x → x.id = id → (∀ y ∈ l.take i, y.id ≠ id) → at_ id l = some i
  | [], i, x, h, _, _ => by simp at h
  | y :: l, 0, x, h, e, _ => by
    rw [List.getElem?_cons_zero] at h
    rw [Option.some.inj h, at_, if_pos e]
  | y :: l, i + 1, x, h, e, hn => by
    rw [List.getElem?_cons_succ] at h
    rw [List.take_succ_cons] at hn
    rw [at_, if_neg (hn y (by simp)), at_first h e (fun z hz => hn z (List.mem_cons_of_mem _ hz))]
    rfl
theorem at_lt {id : Int} {l : List Lt} {i : Nat} (h : at_ id l = some i) : i < l.length := by
  obtain ⟨x, hx, _⟩ := at_some h
  exact (List.getElem?_eq_some_iff.1 hx).1
/-- A stock: lots, the greatest number that was given. -/
abbrev Stk := List Lt × Int
/-- What an act tells: a number, an error. -/
abbrev Say := Int × Nat
def recvOk (units expiry now : Int) : Bool := decide (1 ≤ units) && (decide (units ≤ 1048576) && (decide (0 ≤ expiry) && (decide (expiry ≤ 1048575) && (decide (0 ≤ now) && decide (now ≤ 1048575)))))
def recvS (Z : List Ms.Zn) (P : List Ms.Pd) (s : Stk) (product zone units expiry now : Int) : Say × Stk :=
  if recvOk units expiry now = false then ((0, 1), s)
  else match Ms.findK Ms.Pd.id product P, Ms.findK Ms.Zn.id zone Z with
    | some _, some z => if 256 ≤ s.2 ∨ z.room < loadL s.1 zone + units then ((0, 4), s) else ((s.2 + 1, 0), (s.1 ++ [⟨s.2 + 1, product, units, expiry, 0, 0, 0, [⟨zone, now, -1⟩]⟩], s.2 + 1))
    | _, _ => ((0, 5), s)
open Classical in
noncomputable def moveS (Z : List Ms.Zn) (s : Stk) (id zone now : Int) : Nat × Stk :=
  match at_ id s.1, Ms.findK Ms.Zn.id zone Z with
  | some i, some z => match s.1[i]? with
    | some x => if inL x = 0 then (8, s) else if inL x = zone then (0, s) else if z.room < loadL s.1 zone + x.units then (4, s)
      else if Sy.May x.stays now ∧ 1 ≤ zone then (0, (s.1.set i { x with stays := Sy.goS (Sy.untilS x.stays now) zone now }, s.2)) else (1, s)
    | none => (5, s)
  | _, _ => (5, s)
def splitS (s : Stk) (id units : Int) : Say × Stk :=
  match at_ id s.1 with
  | some i => match s.1[i]? with
    | some x => if units < 1 ∨ x.units ≤ units then ((0, 1), s) else if inL x = 0 then ((0, 8), s) else if 256 ≤ s.2 then ((0, 4), s)
      else ((s.2 + 1, 0), (s.1.set i { x with units := x.units - units } ++ [{ x with id := s.2 + 1, units := units }], s.2 + 1))
    | none => ((0, 5), s)
  | none => ((0, 5), s)
/-- Do two lots differ in nothing but number and units? -/
def alikeB (a b : Lt) : Bool := decide (a.stays = b.stays) && (decide (a.product = b.product) && (decide (a.expiry = b.expiry) && (decide (a.grant = b.grant) && (decide (a.order = b.order) && decide (a.status = b.status)))))
def mergeS (s : Stk) (into frm : Int) : Nat × Stk :=
  match at_ into s.1, at_ frm s.1 with
  | some i, some k => match s.1[i]?, s.1[k]? with
    | some x, some y => if i = k then (1, s) else if inL x = 0 then (8, s) else if alikeB x y = false then (12, s)
      else (0, ((s.1.set i { x with units := x.units + y.units }).eraseIdx k, s.2))
    | _, _ => (5, s)
  | _, _ => (5, s)
def markS (s : Stk) (id st order grant : Int) : Nat × Stk :=
  match at_ id s.1 with
  | some i => match s.1[i]? with
    | some x => if st < 0 ∨ 4 < st ∨ order < 0 ∨ grant < 0 then (1, s) else (0, (s.1.set i { x with status := st, order := order, grant := grant }, s.2))
    | none => (5, s)
  | none => (5, s)
open Classical in
noncomputable def leaveS (s : Stk) (id now : Int) : Nat × Stk :=
  match at_ id s.1 with
  | some i => match s.1[i]? with
    | some x => if Sy.May x.stays now ∧ (∃ A u, x.stays = A ++ [u] ∧ u.to = -1) then (0, (s.1.set i { x with stays := Sy.untilS x.stays now }, s.2)) else (1, s)
    | none => (5, s)
  | none => (5, s)
def lt0 : Lt := ⟨0, 0, 0, 0, 0, 0, 0, []⟩
def lotS (s : Stk) (id : Int) : Lt × Nat :=
  match at_ id s.1 with
  | some i => match s.1[i]? with
    | some x => (x, 0)
    | none => (lt0, 5)
  | none => (lt0, 5)
open Classical in
noncomputable def putOk (given : Int) (x : Lt) : Bool := decide (given < x.id ∧ x.id ≤ 256 ∧ 1 ≤ x.units ∧ x.units ≤ 1048576 ∧ 0 ≤ x.status ∧ x.status ≤ 4 ∧ Sy.Right x.stays ∧ 0 ≤ x.product ∧ 0 ≤ x.expiry ∧ 0 ≤ x.grant ∧ 0 ≤ x.order)
noncomputable def putS (s : Stk) (x : Lt) : Nat × Stk := if putOk s.2 x = true then (0, (s.1 ++ [x], x.id)) else (1, s)
def giveS (s : Stk) (id : Int) : Nat × Stk := if id < s.2 ∨ 256 < id then (1, s) else (0, (s.1, id))
/-- A stock as it may be. -/
structure Good (s : Stk) : Prop where
  ids : s.1.Pairwise fun a b => a.id < b.id
  low : ∀ x ∈ s.1, 1 ≤ x.id ∧ x.id ≤ s.2
  given : 0 ≤ s.2 ∧ s.2 ≤ 256
  units : ∀ x ∈ s.1, 1 ≤ x.units
  sum : (s.1.map Lt.units).sum ≤ s.2 * 1048576
  long : ∀ x ∈ s.1, x.stays.length ≤ 100000
theorem good_nil : Good ([], 0) := ⟨List.Pairwise.nil, fun x hx => by simp at hx, by simp, fun x hx => by simp at hx, by simp, fun x hx => by simp at hx⟩
theorem good_len {s : Stk} (h : Good s) : s.1.length ≤ 256 := by
  have key : ∀ (l : List Lt) (m : Int), l.Pairwise (fun a b => a.id < b.id) → (∀ x ∈ l, m < x.id) → ∀ g : Int, m ≤ g → (∀ x ∈ l, x.id ≤ g) → (l.length : Int) ≤ g - m := by
    intro l
    induction l with
    | nil =>
      intro m _ _ g hg _
      simp
      omega
    | cons x l ih =>
      intro m hp hm g hg hh
      obtain ⟨h1, h2⟩ := List.pairwise_cons.1 hp
      have h3 := hm x (by simp)
      have h4 := hh x (by simp)
      have := ih x.id h2 h1 g h4 (fun y hy => hh y (List.mem_cons_of_mem _ hy))
      simp only [List.length_cons]
      omega
  have h1 := key s.1 0 h.ids (fun x hx => by have := (h.low x hx).1; omega) s.2 h.given.1 (fun x hx => (h.low x hx).2)
  have := h.given.2
  omega
/-- Sums of lots' units. -/
theorem load_le : ∀ (l : List Lt) (z n0 : Int), (∀ x ∈ l, 1 ≤ x.units) → n0 ≤ l.foldl (fun n x => n + addL z x) n0 ∧ l.foldl (fun n x => n + addL z x) n0 ≤ n0 + (l.map Lt.units).sum
  | [], z, n0, _ => by simp
  | x :: l, z, n0, h => by
    have hx := h x (by simp)
    have h1 := load_le l z (n0 + addL z x) (fun y hy => h y (List.mem_cons_of_mem _ hy))
    have ha : 0 ≤ addL z x ∧ addL z x ≤ x.units := by
      unfold addL
      split <;> omega
    simp only [List.foldl_cons, List.map_cons, List.sum_cons]
    omega
theorem sum_pos : ∀ (l : List Lt), (∀ x ∈ l, 1 ≤ x.units) → (l.length : Int) ≤ (l.map Lt.units).sum
  | [], _ => by simp
  | x :: l, h => by
    have hx := h x (by simp)
    have := sum_pos l (fun y hy => h y (List.mem_cons_of_mem _ hy))
    simp only [List.map_cons, List.sum_cons, List.length_cons]
    omega
theorem sum_mem : ∀ {l : List Lt} {x : Lt}, (∀ y ∈ l, 1 ≤ y.units) → x ∈ l → x.units ≤ (l.map Lt.units).sum
  | [], x, _, hx => by simp at hx
  | y :: l, x, h, hx => by
    have hy := h y (by simp)
    have hp := sum_pos l (fun z hz => h z (List.mem_cons_of_mem _ hz))
    simp only [List.map_cons, List.sum_cons]
    rcases List.mem_cons.1 hx with rfl | hx
    · have : (0 : Int) ≤ (l.length : Int) := by omega
      omega
    · have := sum_mem (fun z hz => h z (List.mem_cons_of_mem _ hz)) hx
      omega
theorem good_load {s : Stk} (h : Good s) (z : Int) : 0 ≤ loadL s.1 z ∧ loadL s.1 z ≤ 268435456 := by
  have h1 := load_le s.1 z 0 h.units
  have h2 := h.sum
  have h3 := h.given
  unfold loadL
  omega
theorem good_units {s : Stk} (h : Good s) {x : Lt} (hx : x ∈ s.1) : 1 ≤ x.units ∧ x.units ≤ 268435456 := by
  have h1 := sum_mem h.units hx
  have h2 := h.sum
  have h3 := h.given
  exact ⟨h.units x hx, by omega⟩
end Go.Proofs.Ytclpdemhfbjliaa.Lo
