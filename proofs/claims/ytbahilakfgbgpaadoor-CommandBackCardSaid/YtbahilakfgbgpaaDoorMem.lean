/- Blocks of memory: what has turned, what lies where, bytes that are kept. No condition but those written. -/
import Derived.Test.YtbahilakfgbgpaaDoorBytes
import Derived.Test.YtbahilakfgbgpaaDoorOcNum
import Derived.Deep.OwnRows
import Derived.IntWalk
import Derived.Laws.BitsAllLaws
import Derived.Laws.BitsLemmas
namespace Go.Proofs.YtbahilakfgbgpaaDoor
open Go.RowKit

/-- Only blocks of a set have turned, and new ones. -/
structure Turn (S : Nat → Prop) (w w' : World) : Prop where
  os : w'.os = w.os
  tape : w'.tape = w.tape
  output : w'.output = w.output
  size : w.heap.size ≤ w'.heap.size
  block : ∀ k, k < w.heap.size → ¬ S k → w'.heap[k]? = w.heap[k]?
theorem Turn.refl (S : Nat → Prop) (w : World) : Turn S w w := ⟨rfl, rfl, rfl, Nat.le_refl _, fun _ _ _ => rfl⟩
theorem Turn.trans {S S' : Nat → Prop} {a b c : World} (h : Turn S a b) (k : Turn S' b c) (hs : ∀ i, S' i → S i ∨ a.heap.size ≤ i) : Turn S a c :=
  ⟨k.os.trans h.os, k.tape.trans h.tape, k.output.trans h.output, Nat.le_trans h.size k.size, fun i hi hn =>
    (k.block i (Nat.lt_of_lt_of_le hi h.size) (fun hs' => (hs i hs').elim hn (fun h1 => by omega))).trans (h.block i hi hn)⟩
theorem Turn.mono {S S' : Nat → Prop} {a b : World} (h : Turn S a b) (hs : ∀ i, i < a.heap.size → S i → S' i) : Turn S' a b :=
  ⟨h.os, h.tape, h.output, h.size, fun i hi hn => h.block i hi (fun x => hn (hs i hi x))⟩
theorem Turn.drewN {S : Nat → Prop} {a w : World} (h : Turn S a w) (n : Nat) : Turn S a (w.drewN n) := ⟨h.os, h.tape, h.output, h.size, h.block⟩
theorem Turn.drew {S : Nat → Prop} {a w : World} (h : Turn S a w) : Turn S a w.drew := ⟨h.os, h.tape, h.output, h.size, h.block⟩
theorem Turn.alloc {S : Nat → Prop} {a w : World} (h : Turn S a w) (o : Obj) : Turn S a (w.alloc o) :=
  ⟨h.os, h.tape, h.output, Nat.le_trans h.size (by simp), fun i hi hne => (Below.heap_alloc w o i (Nat.lt_of_lt_of_le hi h.size)).trans (h.block i hi hne)⟩
theorem Turn.setCell {S : Nat → Prop} {a w : World} (h : Turn S a w) {p : Addr} (hp : S p.block ∨ a.heap.size ≤ p.block) (u : Value) : Turn S a (w.setCell p u) :=
  ⟨h.os, h.tape, h.output, by simpa [World.setCell] using h.size, fun i hi hne => (Below.heap_setCell w p u i (by
    rintro rfl
    rcases hp with hp | hp
    · exact hne hp
    · omega)).trans (h.block i hi hne)⟩
theorem Turn.grown {S : Nat → Prop} {a w w' : World} {row : Option Nat} (h : Turn S a w) (hg : w.grownBy w' row) (hr : ∀ k, row = some k → S k ∨ a.heap.size ≤ k) : Turn S a w' :=
  ⟨hg.os.trans h.os, hg.tape.trans h.tape, hg.output.trans h.output, Nat.le_trans h.size hg.size, fun i hi hn =>
    (hg.block i (Nat.lt_of_lt_of_le hi h.size) (fun e => (hr i e.symm).elim hn (fun h1 => by omega))).trans (h.block i hi hn)⟩
theorem Turn.of_below {S : Nat → Prop} {w w' : World} (h : Below w.heap.size w w') : Turn S w w' := ⟨h.os, h.tape, h.output, h.size, fun i hi _ => h.block i hi⟩
theorem Turn.below {S : Nat → Prop} {B : Nat} {a w w' : World} (h : Turn S w w') (hb : Below B a w) (hB : B ≤ w.heap.size) (hs : ∀ i, S i → B ≤ i) : Below B a w' :=
  hb.trans ⟨h.os, h.tape, h.output, h.size, fun i hi => h.block i (by omega) (fun hx => by have := hs i hx; omega)⟩
theorem turn_drewN (w : World) (S : Nat → Prop) (n : Nat) : Turn S w (w.drewN n) := (Turn.refl S w).drewN n
/-- The cells that lie in a block: all of them, and none is frozen. -/
def Lies (w : World) (g : Nat) (t : TypeId) (cs : Array Value) : Prop := w.heap[g]? = some (.cells cs t (0, 0))
/-- Another world with that block has them, too: what all the rest leans on. -/
theorem Lies.like {w w' : World} {g : Nat} {t : TypeId} {cs : Array Value} (h : Lies w g t cs) (e : w'.heap[g]? = w.heap[g]?) : Lies w' g t cs := by
  unfold Lies
  rw [e]
  exact h
theorem Lies.lt {w : World} {g : Nat} {t : TypeId} {cs : Array Value} (h : Lies w g t cs) : g < w.heap.size :=
  (Array.getElem?_eq_some_iff.1 h).1
theorem Lies.type {w : World} {g : Nat} {t t' : TypeId} {cs cs' : Array Value} (h : Lies w g t cs) (h' : Lies w g t' cs') : t = t' := by
  have e := Option.some.inj (Eq.trans (Eq.symm h) h')
  injection e
theorem Lies.cell {w : World} {g : Nat} {t : TypeId} {cs : Array Value} (h : Lies w g t cs) (i : Nat) : w.cell? ⟨g, i, none⟩ = cs[i]? := cell_of_row w g i cs t (0, 0) h
theorem Lies.frozen {w : World} {g : Nat} {t : TypeId} {cs : Array Value} (h : Lies w g t cs) (i : Nat) : w.frozen? ⟨g, i, none⟩ = false := by
  simp [World.frozen?, show w.heap[g]? = _ from h]
theorem Lies.new (w : World) (t : TypeId) (cs : Array Value) : Lies (w.alloc (.cells cs t)) w.heap.size t cs := heap_alloc_new w _
theorem Lies.drewN {w : World} {g : Nat} {t : TypeId} {cs : Array Value} (h : Lies w g t cs) (n : Nat) : Lies (w.drewN n) g t cs := h.like rfl
theorem Lies.alloc {w : World} {g : Nat} {t : TypeId} {cs : Array Value} (h : Lies w g t cs) (o : Obj) : Lies (w.alloc o) g t cs := h.like (Below.heap_alloc w o g h.lt)
theorem Lies.below {w w' : World} {B g : Nat} {t : TypeId} {cs : Array Value} (h : Lies w g t cs) (hb : Below B w w') (hg : g < B) : Lies w' g t cs := h.like (hb.block g hg)
theorem Lies.grown {w w' : World} {g : Nat} {t : TypeId} {cs : Array Value} {row : Option Nat} (h : Lies w g t cs) (hb : w.grownBy w' row) (hg : some g ≠ row) : Lies w' g t cs := h.like (hb.block g h.lt hg)
theorem Lies.turn {w w' : World} {g : Nat} {t : TypeId} {cs : Array Value} {S : Nat → Prop} (h : Lies w g t cs) (ht : Turn S w w') (hg : ¬ S g) : Lies w' g t cs := h.like (ht.block g h.lt hg)
theorem Lies.set_ {w : World} {g : Nat} {t : TypeId} {cs : Array Value} (h : Lies w g t cs) (i : Nat) (u : Value) : Lies (w.setCell ⟨g, i, none⟩ u) g t (cs.setIfInBounds i u) := by
  have e : w.heap[g]? = some (.cells cs t (0, 0)) := h
  show (w.setCell ⟨g, i, none⟩ u).heap[g]? = _
  simp [World.setCell, Array.getElem?_modify, e]
/-- A row of another type is another block. -/
theorem own_blk_ne {w : World} {g : Nat} {t : TypeId} {cs : Array Value} {base : Nat} {e : TypeId} {size n : Nat} {v : Value} {xs : List Value} (h : w.ownsRow base e size v n xs) (hg : Lies w g t cs) (hne : e ≠ t) : v.ownBlock ≠ some g := by
  intro he
  rcases h.2 with ⟨hv, _⟩ | ⟨b, cap, cur, hv, _, hh, _⟩
  · rw [hv] at he
    cases he
  · rw [hv] at he
    injection he with he
    simp only at he
    subst he
    exact hne (Lies.type (cs := cur) hh hg)
/-- A row that a call owns is kept where its block is. -/
theorem own_turn {w w' : World} {S : Nat → Prop} {base : Nat} {e : TypeId} {size n : Nat} {v : Value} {xs : List Value} (h : w.ownsRow base e size v n xs) (ht : Turn S w w') (hs : ∀ k, v.ownBlock = some k → ¬ S k) : w'.ownsRow base e size v n xs := by
  refine ⟨h.1, ?_⟩
  rcases h.2 with h0 | ⟨g, cap, cur, rfl, hb, hh, r⟩
  · exact .inl h0
  · exact .inr ⟨g, cap, cur, rfl, hb, (Lies.turn hh ht (hs g rfl)), r⟩
/-- Bytes are kept where their block is. -/
theorem At.turn {w w' : World} {S : Nat → Prop} {p : Option Addr} {n : Nat} {l : List Nat} (h : At w p n l) (ht : Turn S w w') (hs : ∀ a, p = some a → ¬ S a.block) : At w' p n l := by
  obtain ⟨hl, hx, hc⟩ := h
  refine ⟨hl, hx, fun h0 => ?_⟩
  obtain ⟨b, o, hp, hj⟩ := hc h0
  refine ⟨b, o, hp, fun j hjm => ?_⟩
  have hlt : b < w.heap.size := World.block_lt_of_cell? w _ (hj j hjm)
  exact (World.cell?_of_block (a := ⟨b, o + j, none⟩) (ht.block b hlt (hs _ hp))).trans (hj j hjm)
theorem At.turn' {w w' : World} {S : Nat → Prop} {p : Option Addr} {n : Nat} {l : List Nat} (h : At w p n l) (ht : Turn S w w') (hs : 0 < n → ∀ a, p = some a → ¬ S a.block) : At w' p n l := by
  by_cases hn : 0 < n
  · exact h.turn ht (hs hn)
  · exact ⟨h.1, h.2.1, fun h0 => absurd h0 hn⟩
/-- A row that the call owns has a block of those that are the call's, and one that is there. -/
theorem own_lt {w : World} {base : Nat} {e : TypeId} {size n : Nat} {v : Value} {xs : List Value} (h : w.ownsRow base e size v n xs) {k : Nat} (hk : v.ownBlock = some k) : base ≤ k ∧ k < w.heap.size := by
  have := h.lt k hk
  omega
theorem own_slice {w : World} {base : Nat} {e : TypeId} {size n : Nat} {v : Value} {xs : List Value} (h : w.ownsRow base e size v n xs) : ∃ q d, v = .slice q n d := by
  rcases h.2 with ⟨rfl, rfl⟩ | ⟨g, cap, cur, rfl, _⟩
  · exact ⟨none, 0, rfl⟩
  · exact ⟨_, _, rfl⟩
theorem bys_snoc (l : List Nat) (x : Nat) : bys l ++ [.int .u8 (x : Int)] = bys (l ++ [x]) := by simp [bys]
/-- A block whose cells are no bytes. -/
def NoU8 (cs : Array Value) : Prop := ∀ (i : Nat) (x : Int), cs[i]? ≠ some (Value.int .u8 x)
theorem noU8_2 (p : Option Addr) (n c : Nat) (e : Int) : NoU8 #[.slice p n c, .int .i64 e] := by
  intro i x h
  match i with
  | 0 => simp at h
  | 1 => simp at h
  | i + 2 => simp at h
theorem noU8_3 (p : Option Addr) (n c : Nat) (a e : Int) : NoU8 #[.slice p n c, .int .i64 a, .int .i64 e] := by
  intro i x h
  match i with
  | 0 => simp at h
  | 1 => simp at h
  | 2 => simp at h
  | i + 3 => simp at h
theorem At.ne_lies {w : World} {p : Option Addr} {n : Nat} {l : List Nat} {g : Nat} {t : TypeId} {cs : Array Value} (h : At w p n l) (hb : Lies w g t cs) (hc : NoU8 cs) (hn : 0 < n) : ∀ a, p = some a → a.block ≠ g := by
  rintro a rfl hg
  obtain ⟨b, o, e, hj⟩ := h.2.2 hn
  injection e with e
  subst e
  have h0 := hj 0 hn
  simp only at hg
  subst hg
  rw [Nat.add_zero, hb.cell o] at h0
  exact hc o _ h0
/-- Each block of a set is one whose cells are no bytes. -/
def Plain (w : World) (S : Nat → Prop) : Prop := ∀ k, S k → ∃ t cs, Lies w k t cs ∧ NoU8 cs
theorem At.plain {w w' : World} {S : Nat → Prop} {p : Option Addr} {n : Nat} {l : List Nat} (h : At w p n l) (ht : Turn S w w') (hs : Plain w S) : At w' p n l :=
  h.turn' ht (fun hn a ha hS => by
    obtain ⟨t, cs, hb, hc⟩ := hs _ hS
    exact h.ne_lies hb hc hn a ha rfl)
theorem At.cut {w : World} {p : Option Addr} {n : Nat} {l : List Nat} (h : At w p n l) {k : Nat} (hk : k ≤ n) : At w (p.map fun x => x.add k) (n - k) (l.drop k) := by
  obtain ⟨hl, hx, hc⟩ := h
  refine ⟨by rw [List.length_drop, hl], Oc.mem_drop hx k, fun h0 => ?_⟩
  obtain ⟨b, o, rfl, hj⟩ := hc (by omega)
  refine ⟨b, o + k, by simp [add_none], fun j hjn => ?_⟩
  have e := hj (k + j) (by omega)
  rw [← Nat.add_assoc] at e
  rw [e, List.getD_eq_getElem?_getD, List.getD_eq_getElem?_getD, List.getElem?_drop]
theorem At.none_left {w : World} {p : Option Addr} {l : List Nat} (h : l.length = 0) : At w p 0 l := by
  obtain rfl : l = [] := List.eq_nil_of_length_eq_zero h
  exact ⟨rfl, by simp, fun h0 => absurd h0 (by decide)⟩
/-- Bytes that are handed out: they read as a list. -/
def Out (w : World) (v : Value) (l : List Nat) : Prop := ∃ q d, v = .slice q l.length d ∧ l.length ≤ d ∧ At w q l.length l
theorem out_nil (w : World) : Out w (.slice none 0 0) [] := ⟨none, 0, rfl, Nat.le_refl _, at_nil w⟩
theorem at_one (w : World) (u : Nat) (hu : u < 256) : At (w.alloc (.cells #[.int .u8 (u : Int)] 5)) (some ⟨w.heap.size, 0, none⟩) 1 [u] := by
  refine ⟨rfl, ?_, fun _ => ⟨w.heap.size, 0, rfl, fun j hj => ?_⟩⟩
  · intro x hx
    rw [List.mem_singleton.1 hx]
    exact hu
  · rw [Nat.zero_add, cell_of_row _ w.heap.size j _ 5 (0, 0) (heap_alloc_new w _)]
    match j, hj with
    | 0, _ => rfl
/-- No bytes: wherever they lie. -/
theorem at_zero (w : World) (q : Option Addr) : At w q 0 [] := ⟨rfl, by simp, fun h => absurd h (by decide)⟩
theorem alloc_below (w : World) (o : Obj) : Below w.heap.size w (w.alloc o) := (Below.refl _ w).alloc (Nat.le_refl _) o
theorem made_bytes (m : Nat) : (madeCells #[Value.int .u8 0] m).toList = bys (List.replicate m 0) := by
  apply List.ext_getElem
  · simp [madeCells, bys]
  · intro i h1 h2
    have h : i < m := by simpa [bys] using h2
    simp [madeCells, bys, Nat.mod_one]
/-- A byte of a number, as the walk has it. -/
theorem byte_of (n j : Nat) : ∃ x : Nat, x = n / 256 ^ j % 256 ∧ IntKind.u8.wrap ((n : Int) / 2 ^ (8 * (j : Int)).toNat) = (x : Int) := by
  refine ⟨_, rfl, ?_⟩
  have e : (8 * (j : Int)).toNat = 8 * j := by omega
  rw [e, IntKind.wrap_u8]
  have e2 : (256 : Nat) ^ j = 2 ^ (8 * j) := by rw [Nat.pow_mul]
  rw [e2]
  have e3 : ((n : Int) / 2 ^ (8 * j)) = ((n / 2 ^ (8 * j) : Nat) : Int) := by
    rw [Int.natCast_ediv]
    simp
  rw [e3]
  generalize n / 2 ^ (8 * j) = q
  omega
theorem u64_join (u x : Nat) (hu : u < 72057594037927936) (hx : x < 256) : bits .or .u64 ((u : Int) * 256) (x : Int) = ((256 * u + x : Nat) : Int) := by
  rw [show (u : Int) * 256 = ((256 * u : Nat) : Int) by omega, u64_or_nat _ _ (by omega) (by omega), nat_join 8 _ _ (by omega) (by omega)]
theorem u64_of_wrap (n : Nat) (h : n < 18446744073709551616) : IntKind.u64.wrap (wrap64 (n : Int)) = (n : Int) := by
  rw [IntKind.wrap_u64]
  unfold wrap64
  omega
theorem bit_of (n : Nat) : (if ((n : Int) % 2 == 1) = true then 1 else 0) = n % 2 := by
  by_cases h : n % 2 = 1
  · rw [if_pos (by simp; omega), h]
  · rw [if_neg (by simp; omega)]
    omega
theorem list_of {α : Type} (d : α) (Q : Nat → α → Prop) (n : Nat) (h : ∀ i, i < n → ∃ t, Q i t) : ∃ l : List α, l.length = n ∧ ∀ i, i < n → Q i (l.getD i d) := by
  induction n with
  | zero => exact ⟨[], rfl, fun i hi => by omega⟩
  | succ n ih =>
    obtain ⟨l, hl, hq⟩ := ih (fun i hi => h i (by omega))
    obtain ⟨t, ht⟩ := h n (by omega)
    refine ⟨l ++ [t], by simp [hl], fun i hi => ?_⟩
    by_cases hin : i < n
    · have := hq i hin
      rw [List.getD_eq_getElem?_getD] at this ⊢
      rwa [List.getElem?_append_left (by omega)]
    · obtain rfl : i = n := by omega
      rw [List.getD_eq_getElem?_getD, List.getElem?_append_right (by omega), hl, Nat.sub_self]
      exact ht
theorem nat_u64 {n : Int} (h : (Lit.int .u64 n).wf = true) : 0 ≤ n ∧ n < 18446744073709551616 := by
  have h1 := (Lit.wf_int_iff .u64 n).1 h
  have e1 : IntKind.u64.min = 0 := by decide
  have e2 : IntKind.u64.max = 18446744073709551615 := by decide
  rw [e1, e2] at h1
  omega
end Go.Proofs.YtbahilakfgbgpaaDoor
