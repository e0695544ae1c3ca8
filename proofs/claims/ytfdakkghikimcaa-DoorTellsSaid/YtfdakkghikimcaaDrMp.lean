/- Maps from places to whether a mark is open. No condition but those written. -/
import Derived.Test.YtfdakkghikimcaaDrP1
import Derived.Test.YtfdakkghikimcaaDrFace
import Derived.Maps.RangeWalk
import Derived.Maps.OwnSet
import Derived.Maps.Views
import Derived.Maps.Ext
import Derived.DeepKeys4
namespace Go.Proofs.Ytfdakkghikimcaa
open Go.RowKit Go.Maps

namespace Dr
open Se
theorem laidOut : laidOutB Try.prog = true := by kernel_rfl
theorem rowP : (56 : TypeId) < Try.prog.types.size := of_decide_eq_true (by kernel_rfl)
theorem wideP : (match Try.prog.underlying 56 with | some (.array _ _) | some (.struct _) => true | _ => false) = true := by rw [Try.underlying56]
theorem law : Keyed Try.prog 56 := Keyed.of_law (deep_law_laid laidOut (m := 2) (by omega) rowP (by kernel_rfl) wideP)
theorem zeroP (w : World) : (zeroValue 4).run Try.prog w = .ok (.bool false) w := by kernel_rfl
/-- A place, as a key. -/
def pk (m s : Int) : Lit := .string (keyBytes [.int .i64 m, .int .i64 s])
def pval (m s : Int) : Value := .agg #[.int .i64 m, .int .i64 s]
def In64 (m : Int) : Prop := (Lit.int .i64 m).wf = true
theorem keyT : Try.prog.keyType 56 = true := by kernel_rfl
theorem cellsP : Try.prog.cellsOf 56 = 2 := by kernel_rfl
theorem cellsI : Try.prog.cellsOf 3 = 1 := by kernel_rfl
theorem lits_int (n : Nat) (v : Value) : Try.prog.keyLits (n + 1) 3 [v] = match v with | .int .i64 m => if (Lit.int .i64 m).wf = true then some [.int .i64 m] else none | _ => none := by
  unfold Program.keyLits
  rw [Try.underlying3]
  cases v <;> simp
  rename_i k m
  cases k <;> simp
theorem lits_yes (n : Nat) {m s : Int} (hm : In64 m) (hs : In64 s) : Try.prog.keyLits (n + 2) 56 [.int .i64 m, .int .i64 s] = some [.int .i64 m, .int .i64 s] := by
  unfold Program.keyLits
  rw [Try.underlying56]
  unfold In64 at hm hs
  simp [cellsP, cellsI, lits_int, hm, hs]
theorem lits_inv (n : Nat) {a b : Value} {l : List Lit} (h : Try.prog.keyLits (n + 2) 56 [a, b] = some l) : ∃ m s, a = .int .i64 m ∧ b = .int .i64 s ∧ l = [.int .i64 m, .int .i64 s] ∧ In64 m ∧ In64 s := by
  unfold Program.keyLits at h
  rw [Try.underlying56] at h
  simp [cellsP, cellsI, lits_int] at h
  unfold In64
  split at h
  · rename_i m
    split at h
    · rename_i hm
      simp at h
      split at h
      · rename_i s
        split at h
        · rename_i hs
          simp at h
          exact ⟨m, s, rfl, rfl, h.symm, hm, hs⟩
        · simp at h
      · simp at h
    · simp at h
  · simp at h
theorem typesN : ∃ n, Try.prog.types.size + 1 = n + 2 := ⟨Try.prog.types.size - 1, by have h : (56 : Nat) < Try.prog.types.size := rowP; omega⟩
theorem key_of {m s : Int} (hm : In64 m) (hs : In64 s) : keyOf Try.prog 56 (pval m s) = some (pk m s) := by
  obtain ⟨n, hn⟩ := typesN
  unfold keyOf pval pk
  rw [Try.underlying56]
  simp only [keyT, Value.formed, Try.underlying56, Bool.true_and]
  rw [cellsP, hn]
  simp only [Value.cells]
  rw [if_pos (by rfl), lits_yes n hm hs]
  rfl
theorem key_inv {v : Value} {l : Lit} (h : keyOf Try.prog 56 v = some l) : ∃ m s, v = pval m s ∧ l = pk m s ∧ In64 m ∧ In64 s := by
  obtain ⟨n, hn⟩ := typesN
  unfold keyOf at h
  rw [Try.underlying56] at h
  simp only [keyT, Bool.true_and] at h
  rw [hn] at h
  split at h
  · rename_i hf
    cases v
    case agg cs =>
      simp only [Value.formed, Try.underlying56, cellsP, beq_iff_eq] at hf
      obtain ⟨l0⟩ := cs
      match l0, hf with
      | [a, b], _ =>
        simp only [Value.cells] at h
        rw [Option.map_eq_some_iff] at h
        obtain ⟨ls, h1, h2⟩ := h
        obtain ⟨m, s, rfl, rfl, rfl, hm, hs⟩ := lits_inv n h1
        exact ⟨m, s, rfl, h2.symm, hm, hs⟩
    all_goals simp [Value.formed, Try.underlying56] at hf
  · simp at h
theorem pk_inj {m s m' s' : Int} (hm : In64 m) (hs : In64 s) (hm' : In64 m') (hs' : In64 s') (h : pk m s = pk m' s') : m = m' ∧ s = s' := by
  have := law.inj (key_of hm hs) (h ▸ key_of hm' hs')
  simpa [pval] using this
theorem in64_of {m : Int} (h0 : -9223372036854775808 ≤ m) (h1 : m ≤ 9223372036854775807) : In64 m := by
  unfold In64
  exact WalkArith.wf_i64 ⟨h0, h1⟩
theorem right_in {r : Rd} (h : rightM r = true) : In64 r.min ∧ In64 r.seq := by
  simp only [rightM, Bool.and_eq_true, decide_eq_true_eq] at h
  exact ⟨in64_of (by omega) (by omega), in64_of (by omega) (by omega)⟩
theorem bool_inv {v : Value} {z : DataW Unit × List MemPlace} (h : plainElem Try.prog 4 v = some z) : ∃ b, v = .bool b ∧ z = (.lit (.bool b), []) := by
  unfold plainElem at h
  rw [Try.underlying4] at h
  cases v <;> simp at h
  exact ⟨_, rfl, h.symm⟩
theorem own_like {w w' : World} {b n : Nat} {D : DataW Unit} (h : w.ownsMap Try.prog 56 (plainElem Try.prog 4) b n D) (e : w'.heap[b]? = w.heap[b]?) : w'.ownsMap Try.prog 56 (plainElem Try.prog 4) b n D := by
  obtain ⟨es, clock, hb, F, hs, hD⟩ := h
  exact ⟨es, clock, e.trans hb, F, hs, hD⟩
theorem own_tight {w : World} {b n : Nat} {D : DataW Unit} (h : w.ownsMap Try.prog 56 (plainElem Try.prog 4) b n D) : w.ownsMap Try.prog 56 (plainElem Try.prog 4) b (Maps.size D) D := by
  obtain ⟨es, clock, hb, F, hs, rfl⟩ := h
  refine ⟨es, clock, hb, F, ?_, rfl⟩
  rw [Maps.size_eq, length_sorted]
  simp
/-- A map that holds just these marks. -/
structure Mp (D : DataW Unit) (S : List Rd) : Prop where
  each : ∀ x ∈ S, ∀ z, D.atKey (pk x.min x.seq) z = .lit (.bool (opB x))
  only : ∀ m s, In64 m → In64 s → Maps.has D (pk m s) = true → ∃ x ∈ S, x.min = m ∧ x.seq = s
  size : Maps.size D = S.length
theorem mp_nil : Mp (.map []) [] := ⟨fun x hx => by simp at hx, fun m s _ _ h => by simp [Maps.has] at h, rfl⟩
theorem mp_has {D : DataW Unit} {S : List Rd} (h : Mp D S) {x : Rd} (hx : x ∈ S) : Maps.has D (pk x.min x.seq) = true := Maps.has_true_of_atKey (h.each x hx)
theorem mp_not {D : DataW Unit} {S : List Rd} (h : Mp D S) {m s : Int} (hm : In64 m) (hs : In64 s) (hn : ∀ x ∈ S, ¬ (x.min = m ∧ x.seq = s)) : Maps.has D (pk m s) = false := by
  cases hb : Maps.has D (pk m s)
  · rfl
  · obtain ⟨x, hx, h1⟩ := h.only m s hm hs hb
    exact absurd h1 (hn x hx)
theorem apart_at {S : List Rd} (ha : Apart S) {i j : Nat} {x y : Rd} (hx : S[i]? = some x) (hy : S[j]? = some y) (hij : j < i) : ¬ one y x := by
  have hi := (List.getElem?_eq_some_iff.1 hx)
  have hj := (List.getElem?_eq_some_iff.1 hy)
  obtain ⟨h1, rfl⟩ := hi
  obtain ⟨h2, rfl⟩ := hj
  exact List.pairwise_iff_getElem.1 ha j i h2 h1 hij
theorem put_old {S : List Rd} (ha : Apart S) {x r : Rd} (hx : x ∈ S) (ho : one x r) : (r.ten ≤ x.ten → put S r = (false, S)) ∧ (¬ r.ten ≤ x.ten → (put S r).1 = true ∧ (put S r).2.length = S.length) := by
  obtain ⟨i, hi⟩ := List.mem_iff_getElem?.1 hx
  have e := put_here hi ho (fun j y hj hy h => apart_at ha hi hy hj (by unfold one at *; omega))
  refine ⟨fun h => by rw [e, if_pos h], fun h => ?_⟩
  rw [e, if_neg h]
  exact ⟨rfl, by simp⟩
theorem put_no {S : List Rd} {r : Rd} (h : ∀ x ∈ S, ¬ one x r) : put S r = (true, S ++ [r]) :=
  put_end (fun _ y _ hy => h y (List.mem_of_getElem? hy))
theorem sort_same {S : List Rd} (h : Sorted S) : sortL S = S := sorted_eq (sorted_sort (sorted_apart h)) h (fun x => mem_sort S x)
/-- What a map holds behind a mark that changes something. -/
theorem mp_put {D : DataW Unit} {S : List Rd} (h : Mp D S) (hS : Good S) (ht : Maps.Tidy D) {r : Rd} (hb : binB r = true) (hr : rightM r = true) (hc : (put S r).1 = true) : Mp (D.put (pk r.min r.seq) (.lit (.bool (opB r)))) (sortL (put S r).2) := by
  have ha := sorted_apart hS.sorted
  have hk : WideAt.IsKeyLit (pk r.min r.seq) := trivial
  have hri := right_in hr
  have hold : ∀ y ∈ S, one y r → y.ten = 0 ∧ r.ten = 1 := by
    intro y hy ho
    have h1 := (put_old ha hy ho).1
    have h2 : ¬ r.ten ≤ y.ten := fun hle => by
      rw [h1 hle] at hc
      cases hc
    have h3 := hS.bin y hy
    simp only [binB, decide_eq_true_eq] at h3 hb
    omega
  have new : ∀ x, x ∈ sortL (put S r).2 ↔ (x ∈ S ∧ ¬ one x r) ∨ (∃ y, y ∈ S ∧ one y r ∧ x = ⟨r.min, r.seq, max y.ten r.ten⟩) ∨ ((∀ y ∈ S, ¬ one y r) ∧ x = r) := fun x => by rw [mem_sort, put_mem ha]
  have here : ∃ x, x ∈ sortL (put S r).2 ∧ x.min = r.min ∧ x.seq = r.seq := by
    by_cases he : ∃ y ∈ S, one y r
    · obtain ⟨y, hy, ho⟩ := he
      exact ⟨_, (new _).2 (.inr (.inl ⟨y, hy, ho, rfl⟩)), rfl, rfl⟩
    · exact ⟨r, (new r).2 (.inr (.inr ⟨fun y hy ho => he ⟨y, hy, ho⟩, rfl⟩)), rfl, rfl⟩
  refine ⟨fun x hx z => ?_, fun m s hm hs hh => ?_, ?_⟩
  · rcases (new x).1 hx with ⟨h1, h2⟩ | ⟨y, hy, ho, rfl⟩ | ⟨_, rfl⟩
    · rw [Maps.atKey_put_other (fun e => h2 (by
        have hx := right_in (hS.right x h1)
        exact pk_inj hx.1 hx.2 hri.1 hri.2 e))]
      exact h.each x h1 z
    · rw [Maps.atKey_put_same ht.isMap hk]
      have := hold y hy ho
      simp [opB, this]
      omega
    · rw [Maps.atKey_put_same ht.isMap hk]
  · by_cases he : m = r.min ∧ s = r.seq
    · obtain ⟨x, hx, h1, h2⟩ := here
      exact ⟨x, hx, by rw [h1, he.1], by rw [h2, he.2]⟩
    · rw [Maps.has_put_other (fun e => he (pk_inj hm hs hri.1 hri.2 e))] at hh
      obtain ⟨x, hx, h1, h2⟩ := h.only m s hm hs hh
      exact ⟨x, (new x).2 (.inl ⟨hx, fun ho => he (by unfold one at ho; omega)⟩), h1, h2⟩
  · rw [Maps.size_put ht, h.size, len_sort]
    by_cases he : ∃ y ∈ S, one y r
    · obtain ⟨y, hy, ho⟩ := he
      have h1 := mp_has h hy
      rw [ho.1, ho.2] at h1
      have h2 := hold y hy ho
      rw [if_pos h1, ((put_old ha hy ho).2 (by omega)).2]
    · have h1 := mp_not h hri.1 hri.2 (fun x hx h3 => he ⟨x, hx, h3⟩)
      rw [if_neg (by rw [h1]; decide), put_no (fun y hy ho => he ⟨y, hy, ho⟩)]
      simp
theorem putM_same {S : List Rd} (hS : Good S) {r : Rd} (hc : (put S r).1 = false) : sortL (put S r).2 = S := by
  have ha := sorted_apart hS.sorted
  by_cases he : ∃ y ∈ S, one y r
  · obtain ⟨y, hy, ho⟩ := he
    by_cases hle : r.ten ≤ y.ten
    · rw [(put_old ha hy ho).1 hle]
      exact sort_same hS.sorted
    · rw [((put_old ha hy ho).2 hle).1] at hc
      cases hc
  · rw [put_no (fun y hy ho => he ⟨y, hy, ho⟩)] at hc
    cases hc
/-- Whether a mark changes anything, by what stands at its place. -/
theorem put_tells {D : DataW Unit} {S : List Rd} (h : Mp D S) (hS : Good S) {r : Rd} (hb : binB r = true) (hr : rightM r = true) (z : Bool) (v : Bool) (hv : D.atKey (pk r.min r.seq) (.lit (.bool z)) = .lit (.bool v)) :
    (put S r).1 = !(Maps.has D (pk r.min r.seq) && (v || !opB r)) := by
  have ha := sorted_apart hS.sorted
  have hri := right_in hr
  by_cases he : ∃ y ∈ S, one y r
  · obtain ⟨y, hy, ho⟩ := he
    have h1 := mp_has h hy
    have h2 := h.each y hy (.lit (.bool z))
    rw [ho.1, ho.2] at h1 h2
    rw [h2] at hv
    injection hv with hv
    injection hv with hv
    have h3 := hS.bin y hy
    rw [h1, Bool.true_and, ← hv]
    simp only [binB, decide_eq_true_eq] at h3 hb
    by_cases hle : r.ten ≤ y.ten
    · rw [(put_old ha hy ho).1 hle]
      simp only [opB]
      rcases h3 with h3 | h3 <;> rcases hb with hb | hb <;> simp [h3, hb]
      rw [h3, hb] at hle
      omega
    · rw [((put_old ha hy ho).2 hle).1]
      simp only [opB]
      rcases h3 with h3 | h3 <;> rcases hb with hb | hb <;> simp [h3, hb] <;> rw [h3, hb] at hle <;> omega
  · rw [mp_not h hri.1 hri.2 (fun x hx h3 => he ⟨x, hx, h3⟩), put_no (fun y hy ho => he ⟨y, hy, ho⟩)]
    rfl
/-- A book: a block that leads to nothing, or to a map. -/
def PDoor (w : World) (B h : Nat) (F : Nat → Prop) (S : List Rd) : Prop :=
  ∃ mo : Option Nat, Lies w h 54 #[.map mo] ∧ B ≤ h ∧ (∀ k, F k ↔ k = h ∨ mo = some k) ∧
    ((mo = none ∧ S = []) ∨ ∃ b D, mo = some b ∧ b ≠ h ∧ B ≤ b ∧ w.ownsMap Try.prog 56 (plainElem Try.prog 4) b S.length D ∧ Mp D S)
theorem pdoor_foot {w : World} {B h : Nat} {F : Nat → Prop} {S : List Rd} {k : Nat} (hp : PDoor w B h F S) (hk : F k) : B ≤ k ∧ k < w.heap.size := by
  obtain ⟨mo, hl, hB, hF, hm⟩ := hp
  rcases (hF k).1 hk with rfl | e
  · exact ⟨hB, hl.lt⟩
  · rcases hm with ⟨e0, _⟩ | ⟨b, D, e1, _, hBb, hown, _⟩
    · rw [e0] at e
      cases e
    · rw [e1] at e
      injection e with e
      subst e
      exact ⟨hBb, hown.lt⟩
theorem pdoor_turn {w w' : World} {B h : Nat} {F T : Nat → Prop} {S : List Rd} (hp : PDoor w B h F S) (ht : Turn T w w') (hs : ∀ k, F k → ¬ T k) : PDoor w' B h F S := by
  obtain ⟨mo, hl, hB, hF, hm⟩ := hp
  refine ⟨mo, hl.turn ht (hs h ((hF h).2 (.inl rfl))), hB, hF, ?_⟩
  rcases hm with h0 | ⟨b, D, e1, hn, hBb, hown, hM⟩
  · exact .inl h0
  · exact .inr ⟨b, D, e1, hn, hBb, own_like hown (ht.block b hown.lt (hs b ((hF b).2 (.inr e1)))), hM⟩
end Dr
end Go.Proofs.Ytfdakkghikimcaa
