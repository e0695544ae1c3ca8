/- Walks over a writer's own words in package octets: whether it works, whether a size is one, an error kept. -/
import Derived.Test.YtakkkdmbghdhgaaBytes
import Derived.Test.YtakkkdmbghdhgaaNum
namespace Go.Proofs.Ytakkkdmbghdhgaa
open Go.RowKit

/-- Only blocks of a set have turned, and new ones. -/
structure Turn (S : Nat → Prop) (w w' : World) : Prop where
  os : w'.os = w.os
  tape : w'.tape = w.tape
  output : w'.output = w.output
  size : w.heap.size ≤ w'.heap.size
  block : ∀ k, k < w.heap.size → ¬ S k → w'.heap[k]? = w.heap[k]?
theorem Turn.refl (S : Nat → Prop) (w : World) : Turn S w w := ⟨rfl, rfl, rfl, Nat.le_refl _, fun _ _ _ => rfl⟩
theorem Turn.trans {S S' : Nat → Prop} {a b c : World} (h : Turn S a b) (k : Turn S' b c) (hs : ∀ i, S' i → S i ∨ a.heap.size ≤ i) : Turn S a c :=
  ⟨k.os.trans h.os, k.tape.trans h.tape, k.output.trans h.output, Nat.le_trans h.size k.size, fun i hi hn =>
    (k.block i (Nat.lt_of_lt_of_le hi h.size) (fun hs' => (hs i hs').elim hn (fun h1 => by omega))).trans (h.block i hi hn)⟩
theorem Turn.mono {S S' : Nat → Prop} {a b : World} (h : Turn S a b) (hs : ∀ i, i < a.heap.size → S i → S' i) : Turn S' a b :=
  ⟨h.os, h.tape, h.output, h.size, fun i hi hn => h.block i hi (fun x => hn (hs i hi x))⟩
theorem Turn.drewN {S : Nat → Prop} {a w : World} (h : Turn S a w) (n : Nat) : Turn S a (w.drewN n) := ⟨h.os, h.tape, h.output, h.size, h.block⟩
theorem Turn.drew {S : Nat → Prop} {a w : World} (h : Turn S a w) : Turn S a w.drew := ⟨h.os, h.tape, h.output, h.size, h.block⟩
theorem Turn.alloc {S : Nat → Prop} {a w : World} (h : Turn S a w) (o : Obj) : Turn S a (w.alloc o) :=
  ⟨h.os, h.tape, h.output, Nat.le_trans h.size (by simp), fun i hi hne => (Below.heap_alloc w o i (Nat.lt_of_lt_of_le hi h.size)).trans (h.block i hi hne)⟩
theorem Turn.setCell {S : Nat → Prop} {a w : World} (h : Turn S a w) {p : Addr} (hp : S p.block ∨ a.heap.size ≤ p.block) (u : Value) : Turn S a (w.setCell p u) :=
  ⟨h.os, h.tape, h.output, by simpa [World.setCell] using h.size, fun i hi hne => (Below.heap_setCell w p u i (by
    rintro rfl
    rcases hp with hp | hp
    · exact hne hp
    · omega)).trans (h.block i hi hne)⟩
theorem Turn.grown {S : Nat → Prop} {a w w' : World} {row : Option Nat} (h : Turn S a w) (hg : w.grownBy w' row) (hr : ∀ k, row = some k → S k ∨ a.heap.size ≤ k) : Turn S a w' :=
  ⟨hg.os.trans h.os, hg.tape.trans h.tape, hg.output.trans h.output, Nat.le_trans h.size hg.size, fun i hi hn =>
    (hg.block i (Nat.lt_of_lt_of_le hi h.size) (fun e => (hr i e.symm).elim hn (fun h1 => by omega))).trans (h.block i hi hn)⟩
theorem Turn.of_below {S : Nat → Prop} {w w' : World} (h : Below w.heap.size w w') : Turn S w w' := ⟨h.os, h.tape, h.output, h.size, fun i hi _ => h.block i hi⟩
theorem Turn.below {S : Nat → Prop} {B : Nat} {a w w' : World} (h : Turn S w w') (hb : Below B a w) (hB : B ≤ w.heap.size) (hs : ∀ i, S i → B ≤ i) : Below B a w' :=
  hb.trans ⟨h.os, h.tape, h.output, h.size, fun i hi => h.block i (by omega) (fun hx => by have := hs i hx; omega)⟩

/-- The cells that lie in a block: all of them, and none is frozen. -/
def Lies (w : World) (g : Nat) (t : TypeId) (cs : Array Value) : Prop := w.heap[g]? = some (.cells cs t (0, 0))
/-- Another world with that block has them, too: what all the rest leans on. -/
theorem Lies.like {w w' : World} {g : Nat} {t : TypeId} {cs : Array Value} (h : Lies w g t cs) (e : w'.heap[g]? = w.heap[g]?) : Lies w' g t cs := by
  unfold Lies
  rw [e]
  exact h
theorem Lies.lt {w : World} {g : Nat} {t : TypeId} {cs : Array Value} (h : Lies w g t cs) : g < w.heap.size :=
  (Array.getElem?_eq_some_iff.1 h).1
theorem Lies.type {w : World} {g : Nat} {t t' : TypeId} {cs cs' : Array Value} (h : Lies w g t cs) (h' : Lies w g t' cs') : t = t' := by
  have e := Option.some.inj (Eq.trans (Eq.symm h) h')
  injection e
theorem Lies.cell {w : World} {g : Nat} {t : TypeId} {cs : Array Value} (h : Lies w g t cs) (i : Nat) : w.cell? ⟨g, i, none⟩ = cs[i]? := cell_of_row w g i cs t (0, 0) h
theorem Lies.frozen {w : World} {g : Nat} {t : TypeId} {cs : Array Value} (h : Lies w g t cs) (i : Nat) : w.frozen? ⟨g, i, none⟩ = false := by
  simp [World.frozen?, show w.heap[g]? = _ from h]
theorem Lies.new (w : World) (t : TypeId) (cs : Array Value) : Lies (w.alloc (.cells cs t)) w.heap.size t cs := heap_alloc_new w _
theorem Lies.drewN {w : World} {g : Nat} {t : TypeId} {cs : Array Value} (h : Lies w g t cs) (n : Nat) : Lies (w.drewN n) g t cs := h.like rfl
theorem Lies.alloc {w : World} {g : Nat} {t : TypeId} {cs : Array Value} (h : Lies w g t cs) (o : Obj) : Lies (w.alloc o) g t cs := h.like (Below.heap_alloc w o g h.lt)
theorem Lies.below {w w' : World} {B g : Nat} {t : TypeId} {cs : Array Value} (h : Lies w g t cs) (hb : Below B w w') (hg : g < B) : Lies w' g t cs := h.like (hb.block g hg)
theorem Lies.grown {w w' : World} {g : Nat} {t : TypeId} {cs : Array Value} {row : Option Nat} (h : Lies w g t cs) (hb : w.grownBy w' row) (hg : some g ≠ row) : Lies w' g t cs := h.like (hb.block g h.lt hg)
theorem Lies.turn {w w' : World} {g : Nat} {t : TypeId} {cs : Array Value} {S : Nat → Prop} (h : Lies w g t cs) (ht : Turn S w w') (hg : ¬ S g) : Lies w' g t cs := h.like (ht.block g h.lt hg)
theorem Lies.set_ {w : World} {g : Nat} {t : TypeId} {cs : Array Value} (h : Lies w g t cs) (i : Nat) (u : Value) : Lies (w.setCell ⟨g, i, none⟩ u) g t (cs.setIfInBounds i u) := by
  have e : w.heap[g]? = some (.cells cs t (0, 0)) := h
  show (w.setCell ⟨g, i, none⟩ u).heap[g]? = _
  simp [World.setCell, Array.getElem?_modify, e]
/-- A row of another type is another block. -/
theorem own_blk_ne {w : World} {g : Nat} {t : TypeId} {cs : Array Value} {base : Nat} {e : TypeId} {size n : Nat} {v : Value} {xs : List Value} (h : w.ownsRow base e size v n xs) (hg : Lies w g t cs) (hne : e ≠ t) : v.ownBlock ≠ some g := by
  intro he
  rcases h.2 with ⟨hv, _⟩ | ⟨b, cap, cur, hv, _, hh, _⟩
  · rw [hv] at he
    cases he
  · rw [hv] at he
    injection he with he
    simp only at he
    subst he
    exact hne (Lies.type (cs := cur) hh hg)
/-- A row that a call owns is kept where its block is. -/
theorem own_turn {w w' : World} {S : Nat → Prop} {base : Nat} {e : TypeId} {size n : Nat} {v : Value} {xs : List Value} (h : w.ownsRow base e size v n xs) (ht : Turn S w w') (hs : ∀ k, v.ownBlock = some k → ¬ S k) : w'.ownsRow base e size v n xs := by
  refine ⟨h.1, ?_⟩
  rcases h.2 with h0 | ⟨g, cap, cur, rfl, hb, hh, r⟩
  · exact .inl h0
  · exact .inr ⟨g, cap, cur, rfl, hb, (Lies.turn hh ht (hs g rfl)), r⟩
/-- Bytes are kept where their block is. -/
theorem At.turn {w w' : World} {S : Nat → Prop} {p : Option Addr} {n : Nat} {l : List Nat} (h : At w p n l) (ht : Turn S w w') (hs : ∀ a, p = some a → ¬ S a.block) : At w' p n l := by
  obtain ⟨hl, hx, hc⟩ := h
  refine ⟨hl, hx, fun h0 => ?_⟩
  obtain ⟨b, o, hp, hj⟩ := hc h0
  refine ⟨b, o, hp, fun j hjm => ?_⟩
  have hlt : b < w.heap.size := World.block_lt_of_cell? w _ (hj j hjm)
  exact (World.cell?_of_block (a := ⟨b, o + j, none⟩) (ht.block b hlt (hs _ hp))).trans (hj j hjm)

theorem At.turn' {w w' : World} {S : Nat → Prop} {p : Option Addr} {n : Nat} {l : List Nat} (h : At w p n l) (ht : Turn S w w') (hs : 0 < n → ∀ a, p = some a → ¬ S a.block) : At w' p n l := by
  by_cases hn : 0 < n
  · exact h.turn ht (hs hn)
  · exact ⟨h.1, h.2.1, fun h0 => absurd h0 hn⟩
/-- A row that the call owns has a block of those that are the call's, and one that is there. -/
theorem own_lt {w : World} {base : Nat} {e : TypeId} {size n : Nat} {v : Value} {xs : List Value} (h : w.ownsRow base e size v n xs) {k : Nat} (hk : v.ownBlock = some k) : base ≤ k ∧ k < w.heap.size := by
  have := h.lt k hk
  omega

/-- The writer of package octets: at block g, its bytes' slice v, its state s. -/
def PW (w : World) (B g : Nat) (v : Value) (s : Option (List Nat)) : Prop :=
  B ≤ g ∧ match s with
  | some l => Lies w g 55 #[v, .int .i64 0] ∧ w.ownsRow B 5 1 v l.length (bys l) ∧ ∀ x ∈ l, x < 256
  | none => Lies w g 55 #[.slice none 0 0, .int .i64 1] ∧ v = .slice none 0 0
/-- The document's writer. -/
def RW (w : World) (B g : Nat) (v : Value) (s : Option (List Nat)) : Prop :=
  B ≤ g ∧ match s with
  | some l => Lies w g 31 #[v, .int .i64 0] ∧ w.ownsRow B 5 1 v l.length (bys l) ∧ ∀ x ∈ l, x < 256
  | none => Lies w g 31 #[v, .int .i64 1] ∧ ∃ n xs, w.ownsRow B 5 1 v n xs
/-- What of memory is a writer's. -/
def Foot (g : Nat) (v : Value) (k : Nat) : Prop := k = g ∨ v.ownBlock = some k
theorem PW.turn {w w' : World} {B g : Nat} {v : Value} {s : Option (List Nat)} {S : Nat → Prop} (h : PW w B g v s) (ht : Turn S w w') (hs : ∀ k, Foot g v k → ¬ S k) : PW w' B g v s := by
  refine ⟨h.1, ?_⟩
  have h2 := h.2
  match s, h2 with
  | none, h2 => exact ⟨h2.1.turn ht (hs g (.inl rfl)), h2.2⟩
  | some l, h2 => exact ⟨h2.1.turn ht (hs g (.inl rfl)), own_turn h2.2.1 ht (fun k hk => hs k (.inr hk)), h2.2.2⟩
theorem RW.turn {w w' : World} {B g : Nat} {v : Value} {s : Option (List Nat)} {S : Nat → Prop} (h : RW w B g v s) (ht : Turn S w w') (hs : ∀ k, Foot g v k → ¬ S k) : RW w' B g v s := by
  refine ⟨h.1, ?_⟩
  have h2 := h.2
  match s, h2 with
  | none, ⟨h2, n, xs, h3⟩ => exact ⟨h2.turn ht (hs g (.inl rfl)), n, xs, own_turn h3 ht (fun k hk => hs k (.inr hk))⟩
  | some l, h2 => exact ⟨h2.1.turn ht (hs g (.inl rfl)), own_turn h2.2.1 ht (fun k hk => hs k (.inr hk)), h2.2.2⟩
theorem PW.foot {w : World} {B g : Nat} {v : Value} {s : Option (List Nat)} (h : PW w B g v s) {k : Nat} (hk : Foot g v k) : B ≤ k ∧ k < w.heap.size := by
  have h2 := h.2
  match s, h2 with
  | none, h2 =>
    rcases hk with rfl | hk
    · exact ⟨h.1, h2.1.lt⟩
    · rw [h2.2] at hk
      simp [Value.ownBlock] at hk
  | some l, h2 =>
    rcases hk with rfl | hk
    · exact ⟨h.1, h2.1.lt⟩
    · exact own_lt h2.2.1 hk
theorem RW.foot {w : World} {B g : Nat} {v : Value} {s : Option (List Nat)} (h : RW w B g v s) {k : Nat} (hk : Foot g v k) : B ≤ k ∧ k < w.heap.size := by
  have h2 := h.2
  match s, h2 with
  | none, ⟨h2, n, xs, h3⟩ =>
    rcases hk with rfl | hk
    · exact ⟨h.1, h2.lt⟩
    · exact own_lt h3 hk
  | some l, h2 =>
    rcases hk with rfl | hk
    · exact ⟨h.1, h2.1.lt⟩
    · exact own_lt h2.2.1 hk

theorem size_any (n : Int) (w : World) : Calls Try.prog 33 #[.int .i64 n] w fun e w' => e = .returned (.bool (decide (1 ≤ n ∧ n ≤ 8))) ∧ w = w' := by
  by_cases h1 : 1 ≤ n
  · by_cases h2 : n ≤ 8
    · have e : decide (1 ≤ n ∧ n ≤ 8) = true := by simp [h1, h2]
      rw [e]
      go_enter Try.func33, Try.ntmps33
      go_wp2
      go_ret
      exact ⟨rfl, rfl⟩
    · have e : decide (1 ≤ n ∧ n ≤ 8) = false := by simp [h2]
      rw [e]
      go_enter Try.func33, Try.ntmps33
      go_wp2
      go_ret
      exact ⟨rfl, rfl⟩
  · have e : decide (1 ≤ n ∧ n ≤ 8) = false := by simp [h1]
    rw [e]
    go_enter Try.func33, Try.ntmps33
    go_wp2
    go_ret
    exact ⟨rfl, rfl⟩

theorem wworks_nil (w : World) : Calls Try.prog 32 #[.pointer none] w fun e w' => e = .returned (.bool false) ∧ w = w' := by
  go_enter Try.func32, Try.ntmps32
  go_wp2
  go_ret
  exact ⟨rfl, rfl⟩
theorem wworks_yes (g : Nat) (v : Value) (w : World) (h : Lies w g 55 #[v, .int .i64 0]) :
    Calls Try.prog 32 #[.pointer (some ⟨g, 0, none⟩)] w fun e w' => e = .returned (.bool true) ∧ w = w' := by
  have c1 : w.cell? ⟨g, 1, none⟩ = some (.int .i64 0) := h.cell 1
  clear h
  go_enter Try.func32, Try.ntmps32
  go_wp2
  go_ret
  exact ⟨rfl, rfl⟩
theorem wworks_no (g : Nat) (v : Value) (w : World) (h : Lies w g 55 #[v, .int .i64 1]) :
    Calls Try.prog 32 #[.pointer (some ⟨g, 0, none⟩)] w fun e w' => e = .returned (.bool false) ∧ w = w' := by
  have c1 : w.cell? ⟨g, 1, none⟩ = some (.int .i64 1) := h.cell 1
  clear h
  go_enter Try.func32, Try.ntmps32
  go_wp2
  go_ret
  exact ⟨rfl, rfl⟩
theorem fail_any (g : Nat) (t : TypeId) (v u : Value) (n : Int) (w : World) (h : Lies w g t #[v, u]) :
    Calls Try.prog 34 #[.pointer (some ⟨g, 0, none⟩), .int .i64 n] w fun e w' => e = .returned (.tuple #[]) ∧ w' = (w.setCell ⟨g, 0, none⟩ (.slice none 0 0)).setCell ⟨g, 1, none⟩ (.int .i64 n) := by
  have c0 : w.cell? ⟨g, 0, none⟩ = some v := h.cell 0
  have c1 : w.cell? ⟨g, 1, none⟩ = some u := h.cell 1
  have f0 := h.frozen 0
  have f1 := h.frozen 1
  have d1 : (w.setCell ⟨g, 0, none⟩ (.slice none 0 0)).cell? ⟨g, 1, none⟩ = some u := by
    have := (h.set_ 0 (.slice none 0 0)).cell 1
    simpa using this
  have e1 := (h.set_ 0 (.slice none 0 0)).frozen 1
  clear h
  go_enter Try.func34, Try.ntmps34
  go_wp2
  go_end0
  exact ⟨rfl, rfl⟩
end Go.Proofs.Ytakkkdmbghdhgaa
