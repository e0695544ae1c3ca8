/- Copies within rows of things of several cells: plain laws, of no program. No condition but those written. -/
import Derived.Test.YtklhapekfgcplaaRw
import Derived.Shelf.Spec.SlicesInsert
import Derived.Lib.AppendZerosOnto
import Derived.Laws.NewBlocks
import Derived.Lib.Overlaps
import Derived.Lib.SliceRun
import Derived.Deep.RegionLaw
namespace Go.Proofs.Ytklhapekfgcplaa
open Go.RowKit

/-- What a row holds when cells were copied into it. -/
def spl (cur : Array Value) (o : Nat) (cs : List Value) : Array Value := (cur.toList.take o ++ cs ++ cur.toList.drop (o + cs.length)).toArray
theorem spl_size (cur : Array Value) (o : Nat) (cs : List Value) (h : o + cs.length ≤ cur.size) : (spl cur o cs).size = cur.size := by
  simp [spl]
  omega
/-- copy, of things of any size in cells, into a block that is known whole. -/
theorem run_copy_lies {P : Program} (w : World) (dT sT ty elem : TypeId) (k g o dLen dCap : Nat) (a : Addr) (sLen sCap : Nat) (cur : Array Value) (t : TypeId) (cs : List Value)
    (hu : P.underlying dT = some (.slice elem)) (hs : (P.info? elem).map (·.size) = some k)
    (hg : Lies w g t cur) (hn : cs.length = Nat.min sLen dLen * k)
    (hsrc : ∀ j v, cs[j]? = some v → w.cell? (a.add j) = some v) (hfit : o + cs.length ≤ cur.size) (h1 : ∀ v ∈ cs, v.oneCell' = true) :
    (Builtin.copy_ #[dT, sT] ty #[.slice (some ⟨g, o, none⟩) dLen dCap, .slice (some a) sLen sCap]).run P w =
      .ok (goInt (Nat.min sLen dLen)) (w.setRow g (spl cur o cs)) := by
  have hl := run_loadCells_list (P := P) w a cs hsrc
  have hst := run_storeCells_at P g o t cs 0 cur w hg (by simpa using hfit) h1
  cases hq : P.info? elem with
  | none => simp [hq] at hs
  | some i =>
    have hi : i.size = k := by simpa [hq] using hs
    simp only [Nat.add_zero] at hst
    simp [Builtin.copy_, run_underlying hu, Builtin.lenOf, Builtin.firstCells, sizeOf, typeInfo, hq, hi, ← hn, hl, hst, spl]
theorem lies_setRow {w : World} {g : Nat} {t : TypeId} {cur : Array Value} (h : Lies w g t cur) (cs : Array Value) : Lies (w.setRow g cs) g t cs := setRow_heap w g cur cs t _ h
theorem turn_setRow {S : Nat → Prop} {a w : World} (h : Turn S a w) {g : Nat} (hg : S g ∨ a.heap.size ≤ g) (cs : Array Value) : Turn S a (w.setRow g cs) :=
  ⟨h.os, h.tape, h.output, by simpa using h.size, fun k hk hn => (setRow_other w g k cs (fun e => by
    subst e
    rcases hg with hg | hg
    · exact hn hg
    · omega)).trans (h.block k hk hn)⟩
theorem below_row {B g : Nat} {w0 w : World} (hb : Below B w0 w) (hg : B ≤ g) (cs : Array Value) : Below B w0 (w.setRow g cs) :=
  hb.trans ⟨rfl, rfl, rfl, by simp, fun k hk => setRow_other w g k cs (by omega)⟩
theorem zero_len (z : Array Value) (n : Nat) : (Builtin.zeroCells z n).toList.length = n * z.size := by rw [Array.length_toList, size_zeroCells]
theorem lies_own {w : World} {B g cap n : Nat} {e : TypeId} {k : Nat} {xs : List Value} (h : w.ownsRow B e k (.slice (some ⟨g, 0, none⟩) n cap) n xs) :
    ∃ cur, Lies w g e cur ∧ B ≤ g ∧ n ≤ cap ∧ cap ≤ 9223372036854775807 ∧ cur.size = cap * k ∧ cur.toList.take (n * k) = xs ∧ xs.length = n * k := by
  rcases h.2 with ⟨h0, _⟩ | ⟨g', cap', cur, e', hb, hh, hc, hm, hs, ht⟩
  · cases h0
  · cases e'
    unfold maxLen at hm
    exact ⟨cur, hh, hb, hc, hm, hs, ht, h.1⟩
theorem own_lies {w : World} {B g cap n : Nat} {e : TypeId} {k : Nat} {cur : Array Value} (h : Lies w g e cur) (hb : B ≤ g) (hn : n ≤ cap) (hc : cap ≤ 9223372036854775807) (hs : cur.size = cap * k) {xs : List Value} (ht : cur.toList.take (n * k) = xs) :
    w.ownsRow B e k (.slice (some ⟨g, 0, none⟩) n cap) n xs := by
  have h1 : n * k ≤ cap * k := Nat.mul_le_mul_right k hn
  refine ⟨?_, .inr ⟨g, cap, cur, rfl, hb, h, hn, by unfold maxLen; omega, hs, ht⟩⟩
  rw [← ht, List.length_take, Array.length_toList, hs]
  omega
/-- What a row holds when all behind a place was copied up, and new cells were laid there. -/
theorem spl_shift {A C D R : List Value} {cur : Array Value} (hcur : cur.toList = A ++ C ++ D) (hR : R.length ≤ D.length) :
    (spl (spl cur (A.length + R.length) C) A.length R).toList.take (A.length + R.length + C.length) = A ++ R ++ C := by
  have hlen : cur.toList.length = A.length + C.length + D.length := by
    rw [hcur]
    simp
    omega
  have h1 : (spl cur (A.length + R.length) C).toList = cur.toList.take (A.length + R.length) ++ C ++ cur.toList.drop (A.length + R.length + C.length) := by simp [spl]
  have h2 : (spl (spl cur (A.length + R.length) C) A.length R).toList = (spl cur (A.length + R.length) C).toList.take A.length ++ R ++ (spl cur (A.length + R.length) C).toList.drop (A.length + R.length) := by simp [spl]
  have hl : (cur.toList.take (A.length + R.length)).length = A.length + R.length := by
    rw [List.length_take]
    omega
  have h3 : (spl cur (A.length + R.length) C).toList.take A.length = A := by
    rw [h1, List.append_assoc, List.take_append_of_le_length (by rw [hl]; omega), List.take_take, show min A.length (A.length + R.length) = A.length by omega, hcur, List.append_assoc, List.take_left]
  have h4 : (spl cur (A.length + R.length) C).toList.drop (A.length + R.length) = C ++ cur.toList.drop (A.length + R.length + C.length) := by
    rw [h1, List.append_assoc, List.drop_append, hl]
    simp
  rw [h2, h3, h4, ← List.append_assoc]
  have : (A ++ R ++ C).length = A.length + R.length + C.length := by simp; omega
  rw [← this, List.take_left]
/-- What a new row holds: what stood ahead of a place, new cells, and what stood from there on. -/
theorem spl_grow (A C Z R : List Value) :
    (spl (spl (A ++ Z).toArray A.length R) (A.length + R.length) C).toList.take (A.length + R.length + C.length) = A ++ R ++ C := by
  have h1 : (spl (A ++ Z).toArray A.length R).toList = A ++ R ++ (A ++ Z).drop (A.length + R.length) := by simp [spl]
  have h2 : (spl (spl (A ++ Z).toArray A.length R) (A.length + R.length) C).toList = (spl (A ++ Z).toArray A.length R).toList.take (A.length + R.length) ++ C ++ (spl (A ++ Z).toArray A.length R).toList.drop (A.length + R.length + C.length) := by simp [spl]
  have h3 : (spl (A ++ Z).toArray A.length R).toList.take (A.length + R.length) = A ++ R := by
    have : (A ++ R).length = A.length + R.length := by simp
    rw [h1, ← this, List.take_left]
  rw [h2, h3]
  have : (A ++ R ++ C).length = A.length + R.length + C.length := by simp; omega
  rw [← this, List.take_left]
theorem flat_split {α : Type} {k : Nat} {enc : α → List Value} (hk : ∀ x, (enc x).length = k) (S : List α) (i : Nat) (hi : i ≤ S.length) :
    S.flatMap enc = (S.take i).flatMap enc ++ (S.drop i).flatMap enc ∧ ((S.take i).flatMap enc).length = i * k ∧ ((S.drop i).flatMap enc).length = (S.length - i) * k := by
  refine ⟨?_, ?_, ?_⟩
  · rw [← List.flatMap_append, List.take_append_drop]
  · rw [flat_len hk, List.length_take, Nat.min_eq_left hi]
  · rw [flat_len hk, List.length_drop]
theorem flat_ins {α : Type} {enc : α → List Value} (S : List α) (i : Nat) (x : α) : (S.take i ++ x :: S.drop i).flatMap enc = (S.take i).flatMap enc ++ enc x ++ (S.drop i).flatMap enc := by
  simp
/-- A slice of things that reads as a list, cell by cell. -/
theorem rw_cells {α : Type} {k : Nat} {enc : α → List Value} (hk : ∀ x, (enc x).length = k) {w : World} {b o n : Nat} {l : List α} (h : Rw k enc w (some ⟨b, o, none⟩) n l) (j : Nat) (u : Value) (hj : (l.flatMap enc)[j]? = some u) : w.cell? ⟨b, o + j, none⟩ = some u := by
  have hlt := (List.getElem?_eq_some_iff.1 hj).1
  rw [flat_len hk] at hlt
  have hk0 : 0 < k := by
    rcases Nat.eq_zero_or_pos k with h0 | h0
    · subst h0
      omega
    · exact h0
  have hd : j / k < l.length := (Nat.div_lt_iff_lt_mul hk0).2 hlt
  have hm : j % k < k := Nat.mod_lt _ hk0
  obtain ⟨b', o', e, hc⟩ := h.2 (by rw [← h.1]; exact Nat.lt_of_le_of_lt (Nat.zero_le _) hd)
  cases e
  have hx := List.getElem?_eq_getElem hd
  have e1 : j / k * k + j % k = j := Nat.div_add_mod' j k
  have := hc _ _ hx _ hm
  rw [Nat.add_assoc, e1] at this
  rw [this, ← flat_at hk l _ _ _ hx hm, e1]
  exact hj
theorem turn_of_grown {w w' : World} {v : Value} (hg : w.grownBy w' v.ownBlock) : Turn (fun k => v.ownBlock = some k) w w' :=
  (Turn.refl _ w).grown hg (fun _ hk => .inl hk)
end Go.Proofs.Ytklhapekfgcplaa
