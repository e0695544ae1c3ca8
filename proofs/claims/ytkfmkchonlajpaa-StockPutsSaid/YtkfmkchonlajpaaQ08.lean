/- Copies within rows of things of several cells: plain laws, of no program. No condition but those written. Walks over package stays: slices.Clone of stays, the stays up to a minute. Conditions: the list reads as stays, its slice's length is at most its capacity. Walks over package stays: how many minutes, whether two lists are one. Conditions: the lists read as stays; the slice's length is at most its capacity. Walks over package stays: Enter, Leave. Conditions: the list reads as stays; its slice's length is at most its capacity. Package stays, whole: the bundle's value. No condition. Small walks over package stock: numbers, the zone where a lot is, two lots side by side, a lot with stays of its own, whether it may come. No condition but those written. Walks over package stock: a lot with stays of its own; whether it may come. No condition but those written. -/
import Derived.Test.YtkfmkchonlajpaaQ02
import Derived.Shelf.Spec.SlicesInsert
import Derived.Lib.AppendZerosOnto
import Derived.Laws.NewBlocks
import Derived.Lib.Overlaps
import Derived.Lib.SliceRun
import Derived.Deep.RegionLaw
import Derived.Test.YtkfmkchonlajpaaQ07
import Derived.Test.YtkfmkchonlajpaaQ04
namespace Go.Proofs.Ytkfmkchonlajpaa
open Go.RowKit

/-- What a row holds when cells were copied into it. -/
def spl (cur : Array Value) (o : Nat) (cs : List Value) : Array Value := (cur.toList.take o ++ cs ++ cur.toList.drop (o + cs.length)).toArray
theorem spl_size (cur : Array Value) (o : Nat) (cs : List Value) (h : o + cs.length ≤ cur.size) : (spl cur o cs).size = cur.size := by
  simp [spl]
  omega
/-- copy, of things of any size in cells, into a block that is known whole. -/
theorem run_copy_lies {P : Program} (w : World) (dT sT ty elem : TypeId) (k g o dLen dCap : Nat) (a : Addr) (sLen sCap : Nat) (cur : Array Value) (t : TypeId) (cs : List Value)
    (hu : P.underlying dT = some (.slice elem)) (hs : (P.info? elem).map (·.size) = some k)
    (hg : Lies w g t cur) (hn : cs.length = Nat.min sLen dLen * k)
    (hsrc : ∀ j v, cs[j]? = some v → w.cell? (a.add j) = some v) (hfit : o + cs.length ≤ cur.size) (h1 : ∀ v ∈ cs, v.oneCell' = true) :
    (Builtin.copy_ #[dT, sT] ty #[.slice (some ⟨g, o, none⟩) dLen dCap, .slice (some a) sLen sCap]).run P w =
      .ok (goInt (Nat.min sLen dLen)) (w.setRow g (spl cur o cs)) := by
  have hl := run_loadCells_list (P := P) w a cs hsrc
  have hst := run_storeCells_at P g o t cs 0 cur w hg (by simpa using hfit) h1
  cases hq : P.info? elem with
  | none => simp [hq] at hs
  | some i =>
    have hi : i.size = k := by simpa [hq] using hs
    simp only [Nat.add_zero] at hst
    simp [Builtin.copy_, run_underlying hu, Builtin.lenOf, Builtin.firstCells, sizeOf, typeInfo, hq, hi, ← hn, hl, hst, spl]
theorem lies_setRow {w : World} {g : Nat} {t : TypeId} {cur : Array Value} (h : Lies w g t cur) (cs : Array Value) : Lies (w.setRow g cs) g t cs := setRow_heap w g cur cs t _ h
theorem turn_setRow {S : Nat → Prop} {a w : World} (h : Turn S a w) {g : Nat} (hg : S g ∨ a.heap.size ≤ g) (cs : Array Value) : Turn S a (w.setRow g cs) :=
  ⟨h.os, h.tape, h.output, by simpa using h.size, fun k hk hn => (setRow_other w g k cs (fun e => by
    subst e
    rcases hg with hg | hg
    · exact hn hg
    · omega)).trans (h.block k hk hn)⟩
theorem below_row {B g : Nat} {w0 w : World} (hb : Below B w0 w) (hg : B ≤ g) (cs : Array Value) : Below B w0 (w.setRow g cs) :=
  hb.trans ⟨rfl, rfl, rfl, by simp, fun k hk => setRow_other w g k cs (by omega)⟩
theorem zero_len (z : Array Value) (n : Nat) : (Builtin.zeroCells z n).toList.length = n * z.size := by rw [Array.length_toList, size_zeroCells]
theorem lies_own {w : World} {B g cap n : Nat} {e : TypeId} {k : Nat} {xs : List Value} (h : w.ownsRow B e k (.slice (some ⟨g, 0, none⟩) n cap) n xs) :
    ∃ cur, Lies w g e cur ∧ B ≤ g ∧ n ≤ cap ∧ cap ≤ 9223372036854775807 ∧ cur.size = cap * k ∧ cur.toList.take (n * k) = xs ∧ xs.length = n * k := by
  rcases h.2 with ⟨h0, _⟩ | ⟨g', cap', cur, e', hb, hh, hc, hm, hs, ht⟩
  · cases h0
  · cases e'
    unfold maxLen at hm
    exact ⟨cur, hh, hb, hc, hm, hs, ht, h.1⟩
theorem own_lies {w : World} {B g cap n : Nat} {e : TypeId} {k : Nat} {cur : Array Value} (h : Lies w g e cur) (hb : B ≤ g) (hn : n ≤ cap) (hc : cap ≤ 9223372036854775807) (hs : cur.size = cap * k) {xs : List Value} (ht : cur.toList.take (n * k) = xs) :
    w.ownsRow B e k (.slice (some ⟨g, 0, none⟩) n cap) n xs := by
  have h1 : n * k ≤ cap * k := Nat.mul_le_mul_right k hn
  refine ⟨?_, .inr ⟨g, cap, cur, rfl, hb, h, hn, by unfold maxLen; omega, hs, ht⟩⟩
  rw [← ht, List.length_take, Array.length_toList, hs]
  omega
/-- What a row holds when all behind a place was copied up, and new cells were laid there. -/
theorem spl_shift {A C D R : List Value} {cur : Array Value} (hcur : cur.toList = A ++ C ++ D) (hR : R.length ≤ D.length) :
    (spl (spl cur (A.length + R.length) C) A.length R).toList.take (A.length + R.length + C.length) = A ++ R ++ C := by
  have hlen : cur.toList.length = A.length + C.length + D.length := by
    rw [hcur]
    simp
    omega
  have h1 : (spl cur (A.length + R.length) C).toList = cur.toList.take (A.length + R.length) ++ C ++ cur.toList.drop (A.length + R.length + C.length) := by simp [spl]
  have h2 : (spl (spl cur (A.length + R.length) C) A.length R).toList = (spl cur (A.length + R.length) C).toList.take A.length ++ R ++ (spl cur (A.length + R.length) C).toList.drop (A.length + R.length) := by simp [spl]
  have hl : (cur.toList.take (A.length + R.length)).length = A.length + R.length := by
    rw [List.length_take]
    omega
  have h3 : (spl cur (A.length + R.length) C).toList.take A.length = A := by
    rw [h1, List.append_assoc, List.take_append_of_le_length (by rw [hl]; omega), List.take_take, show min A.length (A.length + R.length) = A.length by omega, hcur, List.append_assoc, List.take_left]
  have h4 : (spl cur (A.length + R.length) C).toList.drop (A.length + R.length) = C ++ cur.toList.drop (A.length + R.length + C.length) := by
    rw [h1, List.append_assoc, List.drop_append, hl]
    simp
  rw [h2, h3, h4, ← List.append_assoc]
  have : (A ++ R ++ C).length = A.length + R.length + C.length := by simp; omega
  rw [← this, List.take_left]
/-- What a new row holds: what stood ahead of a place, new cells, and what stood from there on. -/
theorem spl_grow (A C Z R : List Value) :
    (spl (spl (A ++ Z).toArray A.length R) (A.length + R.length) C).toList.take (A.length + R.length + C.length) = A ++ R ++ C := by
  have h1 : (spl (A ++ Z).toArray A.length R).toList = A ++ R ++ (A ++ Z).drop (A.length + R.length) := by simp [spl]
  have h2 : (spl (spl (A ++ Z).toArray A.length R) (A.length + R.length) C).toList = (spl (A ++ Z).toArray A.length R).toList.take (A.length + R.length) ++ C ++ (spl (A ++ Z).toArray A.length R).toList.drop (A.length + R.length + C.length) := by simp [spl]
  have h3 : (spl (A ++ Z).toArray A.length R).toList.take (A.length + R.length) = A ++ R := by
    have : (A ++ R).length = A.length + R.length := by simp
    rw [h1, ← this, List.take_left]
  rw [h2, h3]
  have : (A ++ R ++ C).length = A.length + R.length + C.length := by simp; omega
  rw [← this, List.take_left]
theorem flat_split {α : Type} {k : Nat} {enc : α → List Value} (hk : ∀ x, (enc x).length = k) (S : List α) (i : Nat) (hi : i ≤ S.length) :
    S.flatMap enc = (S.take i).flatMap enc ++ (S.drop i).flatMap enc ∧ ((S.take i).flatMap enc).length = i * k ∧ ((S.drop i).flatMap enc).length = (S.length - i) * k := by
  refine ⟨?_, ?_, ?_⟩
  · rw [← List.flatMap_append, List.take_append_drop]
  · rw [flat_len hk, List.length_take, Nat.min_eq_left hi]
  · rw [flat_len hk, List.length_drop]
theorem flat_ins {α : Type} {enc : α → List Value} (S : List α) (i : Nat) (x : α) : (S.take i ++ x :: S.drop i).flatMap enc = (S.take i).flatMap enc ++ enc x ++ (S.drop i).flatMap enc := by
  simp
/-- A slice of things that reads as a list, cell by cell. -/
theorem rw_cells {α : Type} {k : Nat} {enc : α → List Value} (hk : ∀ x, (enc x).length = k) {w : World} {b o n : Nat} {l : List α} (h : Rw k enc w (some ⟨b, o, none⟩) n l) (j : Nat) (u : Value) (hj : (l.flatMap enc)[j]? = some u) : w.cell? ⟨b, o + j, none⟩ = some u := by
  have hlt := (List.getElem?_eq_some_iff.1 hj).1
  rw [flat_len hk] at hlt
  have hk0 : 0 < k := by
    rcases Nat.eq_zero_or_pos k with h0 | h0
    · subst h0
      omega
    · exact h0
  have hd : j / k < l.length := (Nat.div_lt_iff_lt_mul hk0).2 hlt
  have hm : j % k < k := Nat.mod_lt _ hk0
  obtain ⟨b', o', e, hc⟩ := h.2 (by rw [← h.1]; exact Nat.lt_of_le_of_lt (Nat.zero_le _) hd)
  cases e
  have hx := List.getElem?_eq_getElem hd
  have e1 : j / k * k + j % k = j := Nat.div_add_mod' j k
  have := hc _ _ hx _ hm
  rw [Nat.add_assoc, e1] at this
  rw [this, ← flat_at hk l _ _ _ hx hm, e1]
  exact hj
theorem turn_of_grown {w w' : World} {v : Value} (hg : w.grownBy w' v.ownBlock) : Turn (fun k => v.ownBlock = some k) w w' :=
  (Turn.refl _ w).grown hg (fun _ hk => .inl hk)
end Go.Proofs.Ytkfmkchonlajpaa

namespace Go.Proofs.Ytkfmkchonlajpaa
open Go.RowKit

namespace Sy
theorem info : (Try.prog.info? 57).map (fun i => (i.zero, i.size, i.bytes)) = some (some (.agg #[.int .i64 0, .int .i64 0, .int .i64 0]), 3, 24) := by kernel_rfl
theorem scells_one (x : Sy) : ∀ u ∈ scells x, u.oneCell' = true := fun u hu => by
  simp only [scells, List.mem_cons, List.not_mem_nil, or_false] at hu
  rcases hu with rfl | rfl | rfl <;> rfl
set_option maxRecDepth 100000 in
set_option maxHeartbeats 4000000 in
theorem clone_any (q : Option Addr) (n c : Nat) (S : List Sy) (w : World) (h : Rw 3 scells w q n S) (hL : S.length ≤ 1000000) :
    Calls Try.prog 48 #[.slice q n c] w fun e w' => ∃ v, e = .returned v ∧ w'.ownsRow w.heap.size 57 3 v S.length (S.flatMap scells) ∧ Below w.heap.size w w' := by
  have qe : ∀ (w : World) (a : Option Addr) (n c n' c' : Nat), (binOp .eql 30 (.slice a n c) (.slice none n' c')).run Try.prog w = .ok (.bool a.isNone) w := fun w a n c n' c' => Lib.run_eql_slice_nil w _ _ a n c n' c' Try.underlying30
  cases q with
  | none =>
    have hS : S = [] := by
      rcases Nat.eq_zero_or_pos n with h0 | h0
      · exact List.eq_nil_of_length_eq_zero (h.1.trans h0)
      · obtain ⟨_, _, e, _⟩ := h.2 h0
        cases e
    subst hS
    go_enter Try.func48, Try.ntmps48
    go_wp2
    go_ret
    exact ⟨_, rfl, World.ownsRow_nil _ _ _ _, Below.refl _ _⟩
  | some a =>
    obtain ⟨i0, hi, hz0, hz1, hz2⟩ := info_parts info
    have hn := h.1
    have hl : (S.flatMap scells).length = n * 3 := by rw [flat_len scells_len, hn]
    have hc : ∀ j u, (S.flatMap scells)[j]? = some u → w.cell? (a.add j) = some u := fun j u hj => by
      have hlt := (List.getElem?_eq_some_iff.1 hj).1
      obtain ⟨b, o, e, _⟩ := h.2 (by omega)
      cases e
      rw [add_none]
      exact rw_cells scells_len h j u hj
    have HC := Lib.hid hc
    have H1 := Lib.hid (show ∀ u ∈ S.flatMap scells, u.oneCell' = true from fun u hu => by
      obtain ⟨y, _, hu⟩ := List.mem_flatMap.1 hu
      exact scells_one y u hu)
    subst hn
    clear hc h
    go_enter Try.func48, Try.ntmps48
    go_wp2_with (at_builtin; refine wpList_append_own _ rfl _ _ 30 rfl w.heap.size 57 i0 _ 3 24 Try.underlying30 hi hz0 hz1 hz2 rfl (by decide) _ _ _ rfl (World.ownsRow_made w #[] 0 (Nat.le_refl _) (Nat.zero_le _) (by simp)) a S.length c (S.flatMap scells) rfl ?qc1 ?qc2 ?qc3 ?qc4 ?qc5 ?qc6 ?_)
    case qc1 => exact hl
    case qc2 =>
      intro j u hj
      exact Lib.cell?_alloc_some _ (HC.out j u hj)
    case qc3 => exact H1.out
    case qc4 => unfold maxLen; omega
    case qc5 => omega
    case qc6 => simp
    intro v' w1 hown hgrow hnil
    go_wp2
    go_ret
    refine ⟨v', rfl, by simpa using hown, ?_⟩
    exact ((Below.refl _ w).alloc (Nat.le_refl _) _).grown hgrow (by simp) (by intro k hk; simp [Value.ownBlock] at hk; omega)
/-- What stays up to a minute are, as the program finds them. -/
theorem upto_found {S : List Sy} (h : Right S) (m : Int) {k : Nat} (hk : k ≤ S.length) (hlt : ∀ i s, i < k → S[i]? = some s → s.frm < m) (h0 : ∀ s, S[k]? = some s → m ≤ s.frm) : uptoS S m = cutL S k m := by
  rw [upto_stop h m hk h0, upto_take h m k hk hlt]
theorem cut_zero (S : List Sy) (m : Int) : cutL S 0 m = [] := by
  rw [cutL, dif_neg (by omega)]
theorem cut_some {S : List Sy} {j : Nat} {x : Sy} (m : Int) (hx : S[j]? = some x) : cutL S (j + 1) m = (S.take (j + 1)).set j (cut m x) := by
  obtain ⟨hlt, e⟩ := List.getElem?_eq_some_iff.1 hx
  rw [cutL, dif_pos ⟨by omega, by omega⟩]
  have e2 : j + 1 - 1 = j := rfl
  simp only [e2]
  rw [e, List.take_add_one, hx, Option.toList_some, List.set_append_right _ _ (by rw [List.length_take]; omega), List.length_take, show j - min j S.length = 0 by omega]
  rfl
theorem cut_same {S : List Sy} {j : Nat} {x : Sy} (m : Int) (hx : S[j]? = some x) (hc : ¬ (x.to = -1 ∨ m < x.to)) : cutL S (j + 1) m = S.take (j + 1) := by
  have h1 : (S.take (j + 1))[j]? = some x := by rw [List.getElem?_take_of_lt (by omega)]; exact hx
  obtain ⟨hlt, e⟩ := List.getElem?_eq_some_iff.1 h1
  rw [cut_some m hx, cut, if_neg hc, ← e, List.set_getElem_self]
theorem own_base {w : World} {B B' : Nat} {e : TypeId} {k n : Nat} {v : Value} {xs : List Value} (h : w.ownsRow B e k v n xs) (hB : B' ≤ B) : w.ownsRow B' e k v n xs := by
  refine ⟨h.1, ?_⟩
  rcases h.2 with h0 | ⟨g, cap, cur, h1, hb, h2⟩
  · exact .inl h0
  · exact .inr ⟨g, cap, cur, h1, Nat.le_trans hB hb, h2⟩
/-- The first ones begin ahead of a minute. -/
def Firsts (S : List Sy) (m : Int) (k : Nat) : Prop := ∀ i s, i < k → S[i]? = some s → s.frm < m
theorem firsts_next {S : List Sy} {m : Int} {k : Nat} {x : Sy} (h : Firsts S m k) (hx : S[k]? = some x) (hh : x.frm < m) : Firsts S m (k + 1) := fun i s hi hs => by
  by_cases hlt : i < k
  · exact h i s hlt hs
  · obtain rfl : i = k := by omega
    rw [hx] at hs
    rw [← Option.some.inj hs]
    exact hh
set_option maxRecDepth 100000 in
set_option maxHeartbeats 8000000 in
theorem pupto_any (p : Option Addr) (n c : Nat) (S : List Sy) (m : Int) (w : World) (h : Rw 3 scells w p n S) (hn : n ≤ 1000000) (hnc : n ≤ c) :
    Calls Try.prog 59 #[.slice p n c, .int .i64 m] w (UptoEnd (uptoV S m) w) := by
  have hn' : (n : Int) ≤ 1000000 := by omega
  have H := Lib.hid h
  have HN := Lib.hid h.1
  have CR := Lib.hid (pright_any p n c S w h hn)
  by_cases hR : Right S
  · have HB := Lib.hid (right_yes hR)
    have HU : Hid (uptoV S m = uptoS S m) := Lib.hid (by unfold uptoV; rw [if_pos HB.out])
    have HR := Lib.hid hR
    rw [HU.out]
    clear h hR HU
    go_enter Try.func59, Try.ntmps59
    go_wp2_with fail
    refine CR.out.mono ?_
    rintro e w1 ⟨rfl, hb⟩
    rw [HB.out]
    have B1 := Lib.hid hb
    have H1 := Lib.hid (H.out.keep scells_len hb)
    clear hb CR H
    go_wp2
    go_loop [5] (fun i => ∃ k : Nat, k ≤ n ∧ i = .int .i64 k ∧ Hid (Firsts S m k)) (fun i => n - (RowKit.intOf i).toNat)
    case atStart => exact ⟨0, Nat.zero_le _, rfl, Lib.hid (fun i s hi => by omega)⟩
    case round =>
      obtain ⟨k, hk, rfl, HF⟩ := hrel
      by_cases hgo : ∃ x, S[k]? = some x ∧ x.frm < m
      · obtain ⟨x, hx, hf⟩ := hgo
        have hk3 : (k : Int) < (n : Int) := by have := (List.getElem?_eq_some_iff.1 hx).1; have := HN.out; omega
        have hk4 : k < n := by omega
        obtain ⟨b, o, rfl, e0, e1, e2⟩ := rw_at H1.out hx
        have F1 := Lib.hid (firsts_next HF.out hx hf)
        have gk : decide (k < n) = true := by simp; omega
        clear hx e0 e2
        go_wp2
        go_round
        case rel => exact ⟨k + 1, by omega, by go_num, F1⟩
        case measure => simp [RowKit.intOf]; omega
      · have HE : Hid (uptoS S m = cutL S k m) := Lib.hid (upto_found HR.out m (by have := HN.out; omega) HF.out (fun s hs => by
          by_cases h : s.frm < m
          · exact absurd ⟨s, hs, h⟩ hgo
          · omega))
        have HT := Lib.hid (fun W (hW : Rw 3 scells W p n S) => clone_any p k c (S.take k) W (hW.take k hk) (by rw [List.length_take]; omega))
        have hkc : (k : Int) ≤ (c : Int) := by omega
        have hkl : (S.take k).length = k := by rw [List.length_take, HN.out]; omega
        have HK := Lib.hid hkl
        have hstop : (k : Int) < (n : Int) → ∃ x, S[k]? = some x ∧ ¬ x.frm < m := fun hl => by
          have hl' : k < S.length := by have := HN.out; omega
          exact ⟨_, List.getElem?_eq_getElem hl', fun hf => hgo ⟨_, List.getElem?_eq_getElem hl', hf⟩⟩
        clear hgo hkl
        by_cases hlt : (k : Int) < (n : Int)
        · obtain ⟨x0, hx0, hf⟩ := hstop hlt
          obtain ⟨b, o, rfl, _, e1, _⟩ := rw_at H1.out hx0
          have gk : decide (k < n) = true := by simp; omega
          clear hstop hx0
          go_wp2_with fail
          refine (HT.out _ H1.out).mono ?_
          rintro e w2 ⟨v, rfl, ho, hb⟩
          have B2 := Lib.hid (B1.out.trans (hb.mono B1.out.size))
          have hz := B1.out.size
          clear hb HT
          rcases Nat.eq_zero_or_pos k with hk0 | hk0
          · subst hk0
            have HO := Lib.hid ho
            have HC := Lib.hid (cut_zero S m)
            obtain ⟨q, d, rfl⟩ := own_slice ho
            clear ho
            go_wp2
            go_ret
            refine ⟨_, rfl, ?_, B2.out⟩
            rw [HE.out, HC.out]
            exact own_base HO.out hz
          · obtain ⟨x, hx⟩ : ∃ x, S[k - 1]? = some x := ⟨_, List.getElem?_eq_getElem (by have := HN.out; omega)⟩
            obtain ⟨b2, c2, rfl, hB2, hlt2, hnc2⟩ := own_some ho (by rw [HK.out]; exact hk0)
            have hx2 : (S.take k)[k - 1]? = some x := by rw [List.getElem?_take_of_lt (by omega)]; exact hx
            have f1 : w2.cell? ⟨b2, (k - 1) * 3 + 2, none⟩ = some (.int .i64 x.to) := row_cell scells_len ho rfl hx2 (i := 2) (by decide)
            have fz : w2.frozen? ⟨b2, (k - 1) * 3 + 2, none⟩ = false := by
              obtain ⟨cur, HG, _⟩ := lies_own ho
              exact HG.frozen _
            have gz : decide (0 < k) = true := by simp; omega
            have hw2 : IntKind.i64.wrap ((k : Int) - 1) = ((k - 1 : Nat) : Int) := by rw [show (k : Int) - 1 = ((k - 1 : Nat) : Int) by omega]; exact IntWalk.i64_in _ (by omega)
            have hw3 : (k : Int) - 1 = ((k - 1 : Nat) : Int) := by omega
            have hj3 : ((k - 1 : Nat) : Int) < (k : Int) := by omega
            have hj4 : (((S.take k).length : Nat) : Int) = (k : Int) := by rw [HK.out]
            have HO := Lib.hid (own_base ho hz)
            have HS := Lib.hid (row_store (x' := ⟨x.zone, x.frm, m⟩) scells_len (own_base ho hz) hx2 (i := 2) (by decide) (u := .int .i64 m) rfl)
            have HX : Hid (S[k - 1]? = some x) := Lib.hid hx
            have HB2 := Lib.hid (Nat.le_trans hz hB2)
            have HKJ : Hid (k - 1 + 1 = k) := Lib.hid (by omega)
            rw [HK.out]
            clear ho hx hx2 hB2 hlt2
            obtain ⟨j, hj⟩ : ∃ j, k - 1 = j := ⟨_, rfl⟩
            rw [hj] at hw2 hw3 hj3 f1 fz HS HX HKJ
            clear hj
            by_cases hc : x.to = -1 ∨ m < x.to
            · have HC : Hid (cutL S k m = (S.take k).set j ⟨x.zone, x.frm, m⟩) := Lib.hid (by rw [← HKJ.out, cut_some m HX.out, cut, if_pos hc])
              have HL : Hid ((cutL S k m).length = (S.take k).length) := Lib.hid (by rw [HC.out, List.length_set])
              by_cases ht : x.to = -1
              · have te : (x.to == -1) = true := by simp [ht]
                clear hc ht
                go_wp2
                go_ret
                refine ⟨_, rfl, ?_, B2.out.setCell HB2.out _⟩
                rw [HE.out, HL.out, HC.out, HK.out]
                have h1 := HS.out
                rw [HK.out] at h1
                exact h1
              · have te : (x.to == -1) = false := by simp [ht]
                have tm : m < x.to := by omega
                clear hc ht
                go_wp2
                go_ret
                refine ⟨_, rfl, ?_, B2.out.setCell HB2.out _⟩
                rw [HE.out, HL.out, HC.out, HK.out]
                have h1 := HS.out
                rw [HK.out] at h1
                exact h1
            · have te : (x.to == -1) = false := by simp; omega
              have tm : ¬ m < x.to := by omega
              have HC : Hid (cutL S k m = S.take k) := Lib.hid (by
                have := cut_same m HX.out hc
                rwa [HKJ.out] at this)
              clear hc
              go_wp2
              go_ret
              refine ⟨_, rfl, ?_, B2.out⟩
              rw [HE.out, HC.out, HK.out]
              have h1 := HO.out
              rw [HK.out] at h1
              exact h1
        · have gk : decide (k < n) = false := by simp; omega
          clear hstop
          go_wp2_with fail
          refine (HT.out _ H1.out).mono ?_
          rintro e w2 ⟨v, rfl, ho, hb⟩
          have B2 := Lib.hid (B1.out.trans (hb.mono B1.out.size))
          have hz := B1.out.size
          clear hb HT
          rcases Nat.eq_zero_or_pos k with hk0 | hk0
          · subst hk0
            have HO := Lib.hid ho
            have HC := Lib.hid (cut_zero S m)
            obtain ⟨q, d, rfl⟩ := own_slice ho
            clear ho
            go_wp2
            go_ret
            refine ⟨_, rfl, ?_, B2.out⟩
            rw [HE.out, HC.out]
            exact own_base HO.out hz
          · obtain ⟨x, hx⟩ : ∃ x, S[k - 1]? = some x := ⟨_, List.getElem?_eq_getElem (by have := HN.out; omega)⟩
            obtain ⟨b2, c2, rfl, hB2, hlt2, hnc2⟩ := own_some ho (by rw [HK.out]; exact hk0)
            have hx2 : (S.take k)[k - 1]? = some x := by rw [List.getElem?_take_of_lt (by omega)]; exact hx
            have f1 : w2.cell? ⟨b2, (k - 1) * 3 + 2, none⟩ = some (.int .i64 x.to) := row_cell scells_len ho rfl hx2 (i := 2) (by decide)
            have fz : w2.frozen? ⟨b2, (k - 1) * 3 + 2, none⟩ = false := by
              obtain ⟨cur, HG, _⟩ := lies_own ho
              exact HG.frozen _
            have gz : decide (0 < k) = true := by simp; omega
            have hw2 : IntKind.i64.wrap ((k : Int) - 1) = ((k - 1 : Nat) : Int) := by rw [show (k : Int) - 1 = ((k - 1 : Nat) : Int) by omega]; exact IntWalk.i64_in _ (by omega)
            have hw3 : (k : Int) - 1 = ((k - 1 : Nat) : Int) := by omega
            have hj3 : ((k - 1 : Nat) : Int) < (k : Int) := by omega
            have hj4 : (((S.take k).length : Nat) : Int) = (k : Int) := by rw [HK.out]
            have HO := Lib.hid (own_base ho hz)
            have HS := Lib.hid (row_store (x' := ⟨x.zone, x.frm, m⟩) scells_len (own_base ho hz) hx2 (i := 2) (by decide) (u := .int .i64 m) rfl)
            have HX : Hid (S[k - 1]? = some x) := Lib.hid hx
            have HB2 := Lib.hid (Nat.le_trans hz hB2)
            have HKJ : Hid (k - 1 + 1 = k) := Lib.hid (by omega)
            rw [HK.out]
            clear ho hx hx2 hB2 hlt2
            obtain ⟨j, hj⟩ : ∃ j, k - 1 = j := ⟨_, rfl⟩
            rw [hj] at hw2 hw3 hj3 f1 fz HS HX HKJ
            clear hj
            by_cases hc : x.to = -1 ∨ m < x.to
            · have HC : Hid (cutL S k m = (S.take k).set j ⟨x.zone, x.frm, m⟩) := Lib.hid (by rw [← HKJ.out, cut_some m HX.out, cut, if_pos hc])
              have HL : Hid ((cutL S k m).length = (S.take k).length) := Lib.hid (by rw [HC.out, List.length_set])
              by_cases ht : x.to = -1
              · have te : (x.to == -1) = true := by simp [ht]
                clear hc ht
                go_wp2
                go_ret
                refine ⟨_, rfl, ?_, B2.out.setCell HB2.out _⟩
                rw [HE.out, HL.out, HC.out, HK.out]
                have h1 := HS.out
                rw [HK.out] at h1
                exact h1
              · have te : (x.to == -1) = false := by simp [ht]
                have tm : m < x.to := by omega
                clear hc ht
                go_wp2
                go_ret
                refine ⟨_, rfl, ?_, B2.out.setCell HB2.out _⟩
                rw [HE.out, HL.out, HC.out, HK.out]
                have h1 := HS.out
                rw [HK.out] at h1
                exact h1
            · have te : (x.to == -1) = false := by simp; omega
              have tm : ¬ m < x.to := by omega
              have HC : Hid (cutL S k m = S.take k) := Lib.hid (by
                have := cut_same m HX.out hc
                rwa [HKJ.out] at this)
              clear hc
              go_wp2
              go_ret
              refine ⟨_, rfl, ?_, B2.out⟩
              rw [HE.out, HC.out, HK.out]
              have h1 := HO.out
              rw [HK.out] at h1
              exact h1
  · have HB := Lib.hid (right_no hR)
    have HU : Hid (uptoV S m = []) := Lib.hid (by unfold uptoV; rw [if_neg (by rw [HB.out]; decide)])
    rw [HU.out]
    clear h hR HU
    go_enter Try.func59, Try.ntmps59
    go_wp2_with fail
    refine CR.out.mono ?_
    rintro e w1 ⟨rfl, hb⟩
    rw [HB.out]
    have B1 := Lib.hid hb
    clear hb CR H
    go_wp2
    go_ret
    exact ⟨_, rfl, World.ownsRow_nil _ _ _ _, B1.out⟩
end Sy
end Go.Proofs.Ytkfmkchonlajpaa

namespace Go.Proofs.Ytkfmkchonlajpaa
open Go.RowKit

namespace Sy
theorem uptoV_mem {S : List Sy} {m : Int} {s : Sy} (h : s ∈ uptoV S m) : 0 ≤ s.frm ∧ s.frm < s.to ∧ s.to ≤ m := by
  unfold uptoV at h
  by_cases hR : Right S
  · rw [if_pos (right_yes hR)] at h
    obtain ⟨i, hi⟩ := List.mem_iff_getElem?.1 h
    have h1 := upto_shut hR m i s hi
    have h2 := upto_to h
    exact ⟨h1.2.1, h1.2.2.1, h2.1⟩
  · rw [if_neg (by rw [right_no hR]; decide)] at h
    cases h
theorem sum_V (S : List Sy) (m : Int) : sumS (uptoV S m) = minutesV S m := by
  unfold uptoV minutesV
  by_cases hR : Right S
  · rw [if_pos (right_yes hR), if_pos (right_yes hR), sum_upto]
  · rw [if_neg (by rw [right_no hR]; decide), if_neg (by rw [right_no hR]; decide)]
    rfl
theorem sum_bd (S : List Sy) {m : Int} (hm : m ≤ 9223372036854775807) (k : Nat) : 0 ≤ sumS ((uptoV S m).take k) ∧ sumS ((uptoV S m).take k) ≤ 9223372036854775807 := by
  unfold uptoV
  by_cases hR : Right S
  · rw [if_pos (right_yes hR)]
    have := sum_part hR m k
    omega
  · rw [if_neg (by rw [right_no hR]; decide), List.take_nil]
    decide
theorem sum_next {U : List Sy} {k : Nat} {x : Sy} (hx : U[k]? = some x) : sumS (U.take (k + 1)) = sumS (U.take k) + (x.to - x.frm) := by
  rw [List.take_add_one, hx, Option.toList_some, sum_snoc]
theorem takes {α : Type} {l l2 : List α} {k : Nat} {x : α} (h : l.take k = l2.take k) (hx : l[k]? = some x) (hy : l2[k]? = some x) : l.take (k + 1) = l2.take (k + 1) := by
  rw [List.take_add_one, List.take_add_one, h, hx, hy]
theorem nots {α : Type} [DecidableEq α] {l l2 : List α} {k : Nat} {x y : α} (hx : l[k]? = some x) (hy : l2[k]? = some y) (h : x ≠ y) : decide (l = l2) = false := by
  rw [decide_eq_false_iff_not]
  rintro rfl
  rw [hx] at hy
  exact h (Option.some.inj hy)
theorem peq_other (p q : Option Addr) (n m c d : Nat) (w : World) (h : ¬ n = m) :
    Calls Try.prog 67 #[.slice p n c, .slice q m d] w fun e w' => e = .returned (.bool false) ∧ w = w' := by
  have h1 : ((n : Int) != (m : Int)) = true := by simp; omega
  go_enter Try.func67, Try.ntmps67
  go_wp2
  go_ret
  exact ⟨rfl, rfl⟩
theorem peq_nil (p q : Option Addr) (c d : Nat) (w : World) : Calls Try.prog 67 #[.slice p 0 c, .slice q 0 d] w fun e w' => e = .returned (.bool true) ∧ w = w' := by
  go_enter Try.func67, Try.ntmps67
  go_wp2
  go_loop [13] (fun i => i = .int .i64 0) (fun i => 0)
  case atStart => rfl
  case round =>
    obtain rfl := hrel
    go_wp2
    go_ret
    exact ⟨rfl, rfl⟩
set_option maxRecDepth 100000 in
set_option maxHeartbeats 2000000 in
theorem peq_some (b o b2 o2 n c d : Nat) (l l2 : List Sy) (w : World) (hn : l.length = n) (hn2 : l2.length = n) (hbig : n ≤ 1000000)
    (hc : ∀ j x, l[j]? = some x → ∀ i, i < 3 → w.cell? ⟨b, o + j * 3 + i, none⟩ = (scells x)[i]?) (hc2 : ∀ j x, l2[j]? = some x → ∀ i, i < 3 → w.cell? ⟨b2, o2 + j * 3 + i, none⟩ = (scells x)[i]?) :
    Calls Try.prog 67 #[.slice (some ⟨b, o, none⟩) n c, .slice (some ⟨b2, o2, none⟩) n d] w fun e w' => e = .returned (.bool (decide (l = l2))) ∧ ∃ m, w' = w.drewN m := by
  have hbig' : (n : Int) ≤ 1000000 := by omega
  have HC := Lib.hid hc
  have HC2 := Lib.hid hc2
  have HN := Lib.hid hn
  have HN2 := Lib.hid hn2
  clear hc hc2 hn hn2
  go_enter Try.func67, Try.ntmps67
  go_wp2
  go_loopw [13] (fun i wr => ∃ k m : Nat, k ≤ n ∧ i = .int .i64 k ∧ wr = w.drewN m ∧ Hid (l.take k = l2.take k)) (fun i _ => n - (RowKit.intOf i).toNat)
  case atStart => exact ⟨0, 0, Nat.zero_le _, rfl, rfl, Lib.hid (by simp)⟩
  case round =>
    obtain ⟨k, m, hk, rfl, rfl, HT⟩ := hrel
    by_cases hlt : k < n
    · obtain ⟨x, hx⟩ : ∃ x, l[k]? = some x := ⟨_, List.getElem?_eq_getElem (by rw [HN.out]; exact hlt)⟩
      obtain ⟨y, hy⟩ : ∃ y, l2[k]? = some y := ⟨_, List.getElem?_eq_getElem (by rw [HN2.out]; exact hlt)⟩
      have e0 : w.cell? ⟨b, o + k * 3, none⟩ = some (.int .i64 x.zone) := HC.out k x hx 0 (by decide)
      have e1 : w.cell? ⟨b, o + k * 3 + 1, none⟩ = some (.int .i64 x.frm) := HC.out k x hx 1 (by decide)
      have e2 : w.cell? ⟨b, o + k * 3 + 2, none⟩ = some (.int .i64 x.to) := HC.out k x hx 2 (by decide)
      have f0 : w.cell? ⟨b2, o2 + k * 3, none⟩ = some (.int .i64 y.zone) := HC2.out k y hy 0 (by decide)
      have f1 : w.cell? ⟨b2, o2 + k * 3 + 1, none⟩ = some (.int .i64 y.frm) := HC2.out k y hy 1 (by decide)
      have f2 : w.cell? ⟨b2, o2 + k * 3 + 2, none⟩ = some (.int .i64 y.to) := HC2.out k y hy 2 (by decide)
      have hk3 : (k : Int) < (n : Int) := by omega
      by_cases h : x = y
      · subst h
        have HT2 := Lib.hid (takes HT.out hx hy)
        clear hx hy
        go_wp2_with fail
        go_quiet (fail)
        go_wp2
        go_roundw
        case rel => exact ⟨k + 1, _, by omega, by go_num, rfl, HT2⟩
        case measure => simp [RowKit.intOf]; omega
      · have HE := Lib.hid (nots hx hy h)
        have hor : x.zone ≠ y.zone ∨ (x.zone = y.zone ∧ x.frm ≠ y.frm) ∨ (x.zone = y.zone ∧ x.frm = y.frm ∧ x.to ≠ y.to) := by
          by_cases h1 : x.zone = y.zone
          · by_cases h2 : x.frm = y.frm
            · refine .inr (.inr ⟨h1, h2, fun h3 => h ?_⟩)
              cases x
              cases y
              simp only at h1 h2 h3
              rw [h1, h2, h3]
            · exact .inr (.inl ⟨h1, h2⟩)
          · exact .inl h1
        clear hx hy h
        obtain ⟨xm, xs, xt⟩ := x
        obtain ⟨ym, ys, yt⟩ := y
        simp only at hor e0 e1 e2 f0 f1 f2
        rcases hor with h1 | ⟨rfl, h2⟩ | ⟨rfl, rfl, h3⟩
        · have t1 : (xm == ym) = false := by simp [h1]
          clear h1
          go_wp2_with fail
          go_quiet (fail)
          go_wp2
          go_ret
          exact ⟨by rw [HE.out]; rfl, _, World.drewN_drewN _ _ _⟩
        · have t1 : (xs == ys) = false := by simp [h2]
          clear h2
          go_wp2_with fail
          go_quiet (fail)
          go_wp2
          go_ret
          exact ⟨by rw [HE.out]; rfl, _, World.drewN_drewN _ _ _⟩
        · have t1 : (xt == yt) = false := by simp [h3]
          clear h3
          go_wp2_with fail
          go_quiet (fail)
          go_wp2
          go_ret
          exact ⟨by rw [HE.out]; rfl, _, World.drewN_drewN _ _ _⟩
    · obtain rfl : k = n := by omega
      have HE := Lib.hid (show decide (l = l2) = true by
        rw [decide_eq_true_eq]
        have := HT.out
        rwa [List.take_of_length_le (by rw [HN.out]; exact Nat.le_refl _), List.take_of_length_le (by rw [HN2.out]; exact Nat.le_refl _)] at this)
      go_wp2
      go_ret
      exact ⟨by rw [HE.out]; rfl, _, rfl⟩
theorem peq_any (p q : Option Addr) (n m c d : Nat) (l l2 : List Sy) (w : World) (hn : n ≤ 1000000) (h : Rw 3 scells w p n l) (h2 : Rw 3 scells w q m l2) :
    Calls Try.prog 67 #[.slice p n c, .slice q m d] w fun e w' => e = .returned (.bool (decide (l = l2))) ∧ ∃ m, w' = w.drewN m := by
  by_cases hm : n = m
  · subst hm
    by_cases h0 : 0 < n
    · obtain ⟨b, o, rfl, hc⟩ := h.2 h0
      obtain ⟨b2, o2, rfl, hc2⟩ := h2.2 h0
      exact peq_some b o b2 o2 n c d l l2 w h.1 h2.1 hn hc hc2
    · obtain rfl : n = 0 := by omega
      have e1 := List.eq_nil_of_length_eq_zero h.1
      have e2 := List.eq_nil_of_length_eq_zero h2.1
      subst e1 e2
      exact (peq_nil p q c d w).mono fun e w' ⟨he, hw⟩ => ⟨by rw [he]; rfl, 0, hw.symm⟩
  · have e : decide (l = l2) = false := by
      rw [decide_eq_false_iff_not]
      rintro rfl
      exact hm (h.1.symm.trans h2.1)
    rw [e]
    exact (peq_other p q n m c d w hm).mono fun e w' ⟨he, hw⟩ => ⟨he, 0, hw.symm⟩
theorem psame_any (p q : Option Addr) (n m c d : Nat) (l l2 : List Sy) (w : World) (hn : n ≤ 1000000) (h : Rw 3 scells w p n l) (h2 : Rw 3 scells w q m l2) :
    Calls Try.prog 60 #[.slice p n c, .slice q m d] w fun e w' => e = .returned (.bool (decide (l = l2))) ∧ Below w.heap.size w w' := by
  have C := Lib.hid (peq_any p q n m c d l l2 w hn h h2)
  clear h h2
  generalize decide (l = l2) = z at *
  go_enter Try.func60, Try.ntmps60
  go_wp2_with fail
  refine C.out.mono ?_
  rintro e w1 ⟨rfl, k, rfl⟩
  go_wp2
  go_ret
  exact ⟨rfl, below_drewN (Below.refl _ _) k⟩
end Sy
end Go.Proofs.Ytkfmkchonlajpaa

namespace Go.Proofs.Ytkfmkchonlajpaa
open Go.RowKit

namespace Sy
theorem until_V {S : List Sy} {now : Int} (h : May S now) : uptoV S now = untilS S now := by
  unfold uptoV
  rw [if_pos (right_yes h.1), upto_until h]
set_option maxRecDepth 100000 in
set_option maxHeartbeats 8000000 in
theorem penter_no (p : Option Addr) (n c : Nat) (S : List Sy) (z now : Int) (w : World) (h : Rw 3 scells w p n S) (hn : n ≤ 1000000) (hm : ¬ (May S now ∧ 1 ≤ z)) :
    Calls Try.prog 42 #[.slice p n c, .int .i64 z, .int .i64 now] w (NoEnd w) := by
  by_cases hz : 1 ≤ z
  · have hz' : ¬ z < 1 := by omega
    have H := Lib.hid h
    have CR := Lib.hid (pright_any p n c S w h hn)
    have CM := Lib.hid (fun W (hW : Rw 3 scells W p n S) => pmay_any p n c S now W hW hn)
    clear h
    by_cases hR : Right S
    · have HB := Lib.hid (right_yes hR)
      have HM := Lib.hid (may_no hR (fun hh => hm ⟨hh, hz⟩))
      clear hR hm
      go_enter Try.func42, Try.ntmps42
      go_wp2_with fail
      refine CR.out.mono ?_
      rintro e w1 ⟨rfl, hb⟩
      rw [HB.out]
      have B1 := Lib.hid hb
      have H1 := Lib.hid (H.out.keep scells_len hb)
      clear hb CR H
      go_wp2_with fail
      refine (CM.out _ H1.out).mono ?_
      rintro e w2 ⟨rfl, rfl⟩
      rw [HM.out]
      clear CM H1
      go_wp2
      go_ret2
      exact ⟨rfl, B1.out⟩
    · have HB := Lib.hid (right_no hR)
      clear hR hm
      go_enter Try.func42, Try.ntmps42
      go_wp2_with fail
      refine CR.out.mono ?_
      rintro e w1 ⟨rfl, hb⟩
      rw [HB.out]
      have B1 := Lib.hid hb
      clear hb CR H
      go_wp2
      go_ret2
      exact ⟨rfl, B1.out⟩
  · have hz' : z < 1 := by omega
    clear hm h hz
    go_enter Try.func42, Try.ntmps42
    go_wp2
    go_ret2
    exact ⟨rfl, Below.refl _ _⟩
set_option maxRecDepth 100000 in
set_option maxHeartbeats 8000000 in
theorem penter_yes (p : Option Addr) (n c : Nat) (S : List Sy) (z now : Int) (w : World) (h : Rw 3 scells w p n S) (hn : n ≤ 1000000) (hnc : n ≤ c) (hm : May S now) (hz : 1 ≤ z) :
    Calls Try.prog 42 #[.slice p n c, .int .i64 z, .int .i64 now] w (OkEnd (goS (untilS S now) z now) w) := by
  have hz' : ¬ z < 1 := by omega
  obtain ⟨i0, hi, hz0, hz1, hz2⟩ := info_parts info
  have H := Lib.hid h
  have CR := Lib.hid (pright_any p n c S w h hn)
  have CM := Lib.hid (fun W (hW : Rw 3 scells W p n S) => pmay_any p n c S now W hW hn)
  have CU := Lib.hid (fun W (hW : Rw 3 scells W p n S) => pupto_any p n c S now W hW hn hnc)
  have HB := Lib.hid (right_yes hm.1)
  have HM := Lib.hid ((may_B hm.1).2 hm)
  rw [until_V hm] at CU
  have hlen : (untilS S now).length ≤ 1000000 := by
    have := until_len S now
    have := h.1
    omega
  clear h hm
  generalize untilS S now = U at *
  go_enter Try.func42, Try.ntmps42
  go_wp2_with fail
  refine CR.out.mono ?_
  rintro e w1 ⟨rfl, hb⟩
  rw [HB.out]
  have B1 := Lib.hid hb
  have H1 := Lib.hid (H.out.keep scells_len hb)
  clear hb CR H
  go_wp2_with fail
  refine (CM.out _ H1.out).mono ?_
  rintro e w2 ⟨rfl, rfl⟩
  rw [HM.out]
  clear CM
  go_wp2_with fail
  refine (CU.out _ H1.out).mono ?_
  rintro e w3 ⟨v, rfl, ho0, hb⟩
  have ho := own_base ho0 B1.out.size
  have B3 := Lib.hid (B1.out.trans (hb.mono B1.out.size))
  clear hb ho0 CU H1 B1
  rcases ends_of U with rfl | ⟨A, u, rfl⟩
  · have HO := Lib.hid ho
    have HG : Hid (goS [] z now = [] ++ [⟨z, now, -1⟩]) := Lib.hid rfl
    obtain ⟨q, d, rfl⟩ := own_slice ho
    have h0 : (([] : List Sy).length : Int) = 0 := rfl
    have h00 : ([] : List Sy).length = 0 := rfl
    clear ho
    have RW4 := Lib.hid (HO.out.alloc (.cells #[.int .i64 z, .int .i64 now, .int .i64 (-1)] 57))
    have B4 := Lib.hid (B3.out.alloc B3.out.size (.cells #[.int .i64 z, .int .i64 now, .int .i64 (-1)] 57))
    have hws := Lib.hid B3.out.size
    go_wp2_with (at_builtin; refine wpList_append_own _ rfl _ _ 30 rfl w.heap.size 57 i0 _ 3 24 Try.underlying30 hi hz0 hz1 hz2 rfl (by decide) _ _ _ rfl RW4.out ⟨w3.heap.size, 0, none⟩ 1 1 [.int .i64 z, .int .i64 now, .int .i64 (-1)] rfl rfl (World.news_of_block (cs := #[.int .i64 z, .int .i64 now, .int .i64 (-1)]) (t := 57) (fr := (0, 0)) (heap_alloc_new w3 _)) (by simp [Value.oneCell']) (by unfold maxLen; omega) (by omega) (by have := hws.out; simp; omega) ?_; intro v2 w7 hown7 hg7 _)
    have B7 := Lib.hid (B4.out.grown hg7 B4.out.size (fun j hj => (own_lt RW4.out hj).1))
    have RW7 : Hid (w7.ownsRow w.heap.size 57 3 v2 (0 + 1) ((([] : List Sy) ++ [(⟨z, now, -1⟩ : Sy)]).flatMap scells)) := Lib.hid (by rw [← flat_snoc]; exact hown7)
    clear hown7 hg7
    obtain ⟨q3, d3, rfl⟩ := own_slice RW7.out
    go_wp2
    go_ret2
    refine ⟨_, rfl, ?_, B7.out⟩
    rw [HG.out]
    exact RW7.out
  · have hl2 : (A ++ [u]).length = A.length + 1 := by simp
    have hAl : A.length ≤ 1000000 := by omega
    rw [hl2] at ho hlen
    obtain ⟨b2, c2, rfl, hB2, hlt2, hnc2⟩ := own_some ho (by omega)
    have hx2 : (A ++ [u])[A.length]? = some u := by simp
    have f0 : w3.cell? ⟨b2, A.length * 3, none⟩ = some (.int .i64 u.zone) := row_cell scells_len ho hl2 hx2 (i := 0) (by decide)
    have f2 : w3.cell? ⟨b2, A.length * 3 + 2, none⟩ = some (.int .i64 u.to) := row_cell scells_len ho hl2 hx2 (i := 2) (by decide)
    have fz : w3.frozen? ⟨b2, A.length * 3 + 2, none⟩ = false := by
      obtain ⟨cur, HG, _⟩ := lies_own ho
      exact HG.frozen _
    have HO := Lib.hid ho
    have HS := Lib.hid (row_store (x' := ⟨u.zone, u.frm, -1⟩) scells_len ho hx2 (i := 2) (by decide) (u := .int .i64 (-1)) rfl)
    have HB2 := Lib.hid hB2
    have HL := Lib.hid hl2
    have hW : IntKind.i64.wrap (((A.length + 1 : Nat) : Int) - 1) = (A.length : Int) := by rw [show ((A.length + 1 : Nat) : Int) - 1 = (A.length : Int) by omega]; exact IntWalk.i64_in _ (by omega)
    clear ho hx2 hB2 hlt2 hl2
    by_cases hc : u.zone = z
    · have tz : (u.zone == z) = true := by simp [hc]
      have HG : Hid (goS (A ++ [u]) z now = A ++ [⟨u.zone, u.frm, -1⟩]) := Lib.hid (by rw [← hc]; exact go_same)
      have HT : Hid ((A ++ [u]).set A.length ⟨u.zone, u.frm, -1⟩ = A ++ [⟨u.zone, u.frm, -1⟩]) := Lib.hid (by simp)
      clear hc
      go_wp2
      go_ret2
      refine ⟨_, rfl, ?_, B3.out.setCell HB2.out _⟩
      rw [HG.out]
      have h1 := HS.out
      rw [HT.out] at h1
      simpa using h1
    · have tz : (u.zone == z) = false := by simp [hc]
      have HG : Hid (goS (A ++ [u]) z now = A ++ [u] ++ [⟨z, now, -1⟩]) := Lib.hid (go_new hc)
      clear hc f2 fz
      have RW4 := Lib.hid (HO.out.alloc (.cells #[.int .i64 z, .int .i64 now, .int .i64 (-1)] 57))
      have B4 := Lib.hid (B3.out.alloc B3.out.size (.cells #[.int .i64 z, .int .i64 now, .int .i64 (-1)] 57))
      have hws := Lib.hid B3.out.size
      go_wp2_with (at_builtin; refine wpList_append_own _ rfl _ _ 30 rfl w.heap.size 57 i0 _ 3 24 Try.underlying30 hi hz0 hz1 hz2 rfl (by decide) _ _ _ rfl RW4.out ⟨w3.heap.size, 0, none⟩ 1 1 [.int .i64 z, .int .i64 now, .int .i64 (-1)] rfl rfl (World.news_of_block (cs := #[.int .i64 z, .int .i64 now, .int .i64 (-1)]) (t := 57) (fr := (0, 0)) (heap_alloc_new w3 _)) (by simp [Value.oneCell']) (by unfold maxLen; omega) (by omega) (by have := hws.out; simp; omega) ?_; intro v2 w7 hown7 hg7 _)
      have B7 := Lib.hid (B4.out.grown hg7 B4.out.size (fun j hj => (own_lt RW4.out hj).1))
      have RW7 : Hid (w7.ownsRow w.heap.size 57 3 v2 (A.length + 1 + 1) ((A ++ [u] ++ [(⟨z, now, -1⟩ : Sy)]).flatMap scells)) := Lib.hid (by rw [← flat_snoc]; exact hown7)
      clear hown7 hg7
      obtain ⟨q3, d3, rfl⟩ := own_slice RW7.out
      go_wp2
      go_ret2
      refine ⟨_, rfl, ?_, B7.out⟩
      rw [HG.out]
      have h1 := RW7.out
      simpa using h1
end Sy
end Go.Proofs.Ytkfmkchonlajpaa

namespace Go.Proofs.Ytkfmkchonlajpaa
open Go.RowKit

namespace Sy
theorem sface : Face where
  enter := fun p n c S z now w h hn hnc hm hz => penter_yes p n c S z now w h hn hnc hm hz
  enter_no := fun p n c S z now w h hn hm => penter_no p n c S z now w h hn hm
  right := fun p n c S w h hn => pright_any p n c S w h hn
  upto := fun p n c S m w h hn hnc => pupto_any p n c S m w h hn hnc
  same := fun p q n m c d l l2 w h h2 hn => psame_any p q n m c d l l2 w hn h h2
end Sy
end Go.Proofs.Ytkfmkchonlajpaa

namespace Go.Proofs.Ytkfmkchonlajpaa
open Go.RowKit

namespace Lo
set_option maxRecDepth 100000

theorem pu_any (n : Int) (w : World) : Calls Try.prog 36 #[.int .i64 n] w fun e w' => e = .returned (.bool (decide (1 ≤ n) && decide (n ≤ 1048576))) ∧ w' = w := by
  by_cases h1 : 1 ≤ n
  · by_cases h2 : n ≤ 1048576
    · rw [decide_eq_true h1, decide_eq_true h2]
      go_enter Try.func36, Try.ntmps36
      go_wp2
      go_ret
      exact ⟨rfl, rfl⟩
    · rw [decide_eq_true h1, decide_eq_false h2]
      go_enter Try.func36, Try.ntmps36
      go_wp2
      go_ret
      exact ⟨rfl, rfl⟩
  · rw [decide_eq_false h1]
    go_enter Try.func36, Try.ntmps36
    go_wp2
    go_ret
    exact ⟨rfl, rfl⟩
theorem pm_any (n : Int) (w : World) : Calls Try.prog 37 #[.int .i64 n] w fun e w' => e = .returned (.bool (decide (0 ≤ n) && decide (n < 1048576))) ∧ w' = w := by
  by_cases h1 : 0 ≤ n
  · by_cases h2 : n < 1048576
    · rw [decide_eq_true h1, decide_eq_true h2]
      go_enter Try.func37, Try.ntmps37
      go_wp2
      go_ret
      exact ⟨rfl, rfl⟩
    · rw [decide_eq_true h1, decide_eq_false h2]
      go_enter Try.func37, Try.ntmps37
      go_wp2
      go_ret
      exact ⟨rfl, rfl⟩
  · rw [decide_eq_false h1]
    go_enter Try.func37, Try.ntmps37
    go_wp2
    go_ret
    exact ⟨rfl, rfl⟩
theorem pst_any (n : Int) (w : World) : Calls Try.prog 46 #[.int .i64 n] w fun e w' => e = .returned (.bool (decide (0 ≤ n) && decide (n ≤ 4))) ∧ w' = w := by
  by_cases h1 : 0 ≤ n
  · by_cases h2 : n ≤ 4
    · rw [decide_eq_true h1, decide_eq_true h2]
      go_enter Try.func46, Try.ntmps46
      go_wp2
      go_ret
      exact ⟨rfl, rfl⟩
    · rw [decide_eq_true h1, decide_eq_false h2]
      go_enter Try.func46, Try.ntmps46
      go_wp2
      go_ret
      exact ⟨rfl, rfl⟩
  · rw [decide_eq_false h1]
    go_enter Try.func46, Try.ntmps46
    go_wp2
    go_ret
    exact ⟨rfl, rfl⟩
set_option maxHeartbeats 4000000 in
theorem pwhere_any (y : Lv) (w : World) (h : St w y) (hn : y.n ≤ 1000000) : Calls Try.prog 30 #[lval y] w fun e w' => e = .returned (.int .i64 (inL y.x)) ∧ Below w.heap.size w w' := by
  have HI : Hid (inL y.x = match y.x.stays.getLast? with | some s => if s.to = -1 then s.zone else 0 | none => 0) := Lib.hid rfl
  have hl := h.len
  obtain ⟨⟨i1, i2, i3, i4, i5, i6, i7, S⟩, p, n, c⟩ := y
  have B1 := Lib.hid (alloc_below w (.cells #[.int .i64 i1, .int .i64 i2, .int .i64 i3, .int .i64 i4, .int .i64 i5, .int .i64 i6, .int .i64 i7, .slice p n c] 32))
  have X1 := Lib.hid (Lies.new w 32 #[.int .i64 i1, .int .i64 i2, .int .i64 i3, .int .i64 i4, .int .i64 i5, .int .i64 i6, .int .i64 i7, .slice p n c])
  have ST := Lib.hid h
  simp only at hn hl HI
  have hn' : (n : Int) ≤ 1000000 := by omega
  obtain ⟨w1, hw1⟩ : ∃ w1, w.alloc (.cells #[.int .i64 i1, .int .i64 i2, .int .i64 i3, .int .i64 i4, .int .i64 i5, .int .i64 i6, .int .i64 i7, .slice p n c] 32) = w1 := ⟨_, rfl⟩
  rw [hw1] at B1 X1
  have x7 : w1.cell? ⟨w.heap.size, 7, none⟩ = some (.slice p n c) := X1.out.cell 7
  clear h X1
  by_cases hz : n = 0
  · subst hz
    have hS := List.eq_nil_of_length_eq_zero hl
    subst hS
    have HE : Hid (inL ⟨i1, i2, i3, i4, i5, i6, i7, []⟩ = 0) := Lib.hid rfl
    clear ST HI hl
    unfold lval
    go_enter Try.func30, Try.ntmps30
    go_wp2
    go_ret
    exact ⟨by rw [HE.out]; rfl, B1.out⟩
  obtain ⟨m, rfl⟩ : ∃ m, n = m + 1 := ⟨n - 1, by omega⟩
  obtain ⟨s, b, o, hlast, e, hc⟩ := st_last ST.out (m := m) rfl
  simp only at hlast e
  subst e
  have s0 : w1.cell? ⟨b, o + m * 3, none⟩ = some (.int .i64 s.zone) := hc w1 B1.out 0 (by decide)
  have s2 : w1.cell? ⟨b, o + m * 3 + 2, none⟩ = some (.int .i64 s.to) := hc w1 B1.out 2 (by decide)
  have HE : Hid (inL ⟨i1, i2, i3, i4, i5, i6, i7, S⟩ = if s.to = -1 then s.zone else 0) := Lib.hid (by rw [HI.out, hlast])
  have hm0 : (0 : Int) < (m : Int) + 1 := by omega
  have hm1 : (m : Int) ≤ 1000000 := by omega
  clear ST HI hl hc hlast hz hn hn'
  unfold lval
  obtain ⟨sz, sf, st⟩ := s
  simp only at s0 s2 HE
  by_cases ht : st = -1
  · have h1 : (st != -1) = false := by simp [ht]
    have HE2 := Lib.hid (show inL ⟨i1, i2, i3, i4, i5, i6, i7, S⟩ = sz by rw [HE.out, if_pos ht])
    clear ht HE
    go_enter Try.func30, Try.ntmps30
    go_wp2
    go_ret
    exact ⟨by rw [HE2.out]; rfl, B1.out⟩
  · have h1 : (st != -1) = true := by simp [ht]
    have HE2 := Lib.hid (show inL ⟨i1, i2, i3, i4, i5, i6, i7, S⟩ = 0 by rw [HE.out, if_neg ht])
    clear ht HE
    go_enter Try.func30, Try.ntmps30
    go_wp2
    go_ret
    exact ⟨by rw [HE2.out]; rfl, B1.out⟩
set_option maxHeartbeats 8000000 in
theorem palike_any (y z : Lv) (w : World) (h : St w y) (h2 : St w z) (hn : y.n ≤ 1000000) :
    Calls Try.prog 45 #[lval y, lval z] w fun e w' => e = .returned (.bool (alikeB y.x z.x)) ∧ Below w.heap.size w w' := by
  have RS := Lib.hid (fun W (hW : Below w.heap.size w W) => Sy.sface.same y.p z.p y.n z.n y.c z.c y.x.stays z.x.stays W (h.keep hW).1 (h2.keep hW).1 (by omega))
  have HA : Hid (alikeB y.x z.x = ((y.x.product == z.x.product) && ((y.x.expiry == z.x.expiry) && ((y.x.grant == z.x.grant) && ((y.x.order == z.x.order) && ((y.x.status == z.x.status) && decide (y.x.stays = z.x.stays))))))) := Lib.hid (by
    unfold alikeB
    rw [Bool.eq_iff_iff]
    simp only [Bool.and_eq_true, decide_eq_true_eq, beq_iff_eq]
    constructor
    · rintro ⟨a, b, c, d, e, f⟩
      exact ⟨b, c, d, e, f, a⟩
    · rintro ⟨b, c, d, e, f, a⟩
      exact ⟨a, b, c, d, e, f⟩)
  rw [HA.out]
  clear h h2 HA
  obtain ⟨⟨i1, i2, i3, i4, i5, i6, i7, S⟩, p, n, c⟩ := y
  obtain ⟨⟨j1, j2, j3, j4, j5, j6, j7, S2⟩, q, m, d⟩ := z
  unfold lval
  simp only at RS hn ⊢
  generalize decide (S = S2) = t0 at *
  obtain ⟨t1, ht1⟩ : ∃ t, (i2 == j2) = t := ⟨_, rfl⟩
  obtain ⟨t3, ht3⟩ : ∃ t, (i4 == j4) = t := ⟨_, rfl⟩
  obtain ⟨t4, ht4⟩ : ∃ t, (i5 == j5) = t := ⟨_, rfl⟩
  obtain ⟨t5, ht5⟩ : ∃ t, (i6 == j6) = t := ⟨_, rfl⟩
  obtain ⟨t6, ht6⟩ : ∃ t, (i7 == j7) = t := ⟨_, rfl⟩
  rw [ht1, ht3, ht4, ht5, ht6]
  have B1 := Lib.hid (alloc_below w (.cells #[.int .i64 i1, .int .i64 i2, .int .i64 i3, .int .i64 i4, .int .i64 i5, .int .i64 i6, .int .i64 i7, .slice p n c] 32))
  have X1 := Lib.hid (Lies.new w 32 #[.int .i64 i1, .int .i64 i2, .int .i64 i3, .int .i64 i4, .int .i64 i5, .int .i64 i6, .int .i64 i7, .slice p n c])
  obtain ⟨w1, hw1⟩ : ∃ w1, w.alloc (.cells #[.int .i64 i1, .int .i64 i2, .int .i64 i3, .int .i64 i4, .int .i64 i5, .int .i64 i6, .int .i64 i7, .slice p n c] 32) = w1 := ⟨_, rfl⟩
  rw [hw1] at B1 X1
  have B2 := Lib.hid (B1.out.alloc B1.out.size (.cells #[.int .i64 j1, .int .i64 j2, .int .i64 j3, .int .i64 j4, .int .i64 j5, .int .i64 j6, .int .i64 j7, .slice q m d] 32))
  have X2 := Lib.hid (X1.out.alloc (.cells #[.int .i64 j1, .int .i64 j2, .int .i64 j3, .int .i64 j4, .int .i64 j5, .int .i64 j6, .int .i64 j7, .slice q m d] 32))
  have Y2 := Lib.hid (Lies.new w1 32 #[.int .i64 j1, .int .i64 j2, .int .i64 j3, .int .i64 j4, .int .i64 j5, .int .i64 j6, .int .i64 j7, .slice q m d])
  obtain ⟨w2, hw2⟩ : ∃ w2, w1.alloc (.cells #[.int .i64 j1, .int .i64 j2, .int .i64 j3, .int .i64 j4, .int .i64 j5, .int .i64 j6, .int .i64 j7, .slice q m d] 32) = w2 := ⟨_, rfl⟩
  rw [hw2] at B2 X2 Y2
  have x1 : w2.cell? ⟨w.heap.size, 1, none⟩ = some (.int .i64 i2) := X2.out.cell 1
  have y1 : w2.cell? ⟨w1.heap.size, 1, none⟩ = some (.int .i64 j2) := Y2.out.cell 1
  have x3 : w2.cell? ⟨w.heap.size, 3, none⟩ = some (.int .i64 i4) := X2.out.cell 3
  have y3 : w2.cell? ⟨w1.heap.size, 3, none⟩ = some (.int .i64 j4) := Y2.out.cell 3
  have x4 : w2.cell? ⟨w.heap.size, 4, none⟩ = some (.int .i64 i5) := X2.out.cell 4
  have y4 : w2.cell? ⟨w1.heap.size, 4, none⟩ = some (.int .i64 j5) := Y2.out.cell 4
  have x5 : w2.cell? ⟨w.heap.size, 5, none⟩ = some (.int .i64 i6) := X2.out.cell 5
  have y5 : w2.cell? ⟨w1.heap.size, 5, none⟩ = some (.int .i64 j6) := Y2.out.cell 5
  have x6 : w2.cell? ⟨w.heap.size, 6, none⟩ = some (.int .i64 i7) := X2.out.cell 6
  have y6 : w2.cell? ⟨w1.heap.size, 6, none⟩ = some (.int .i64 j7) := Y2.out.cell 6
  have x7 : w2.cell? ⟨w.heap.size, 7, none⟩ = some (.slice p n c) := X2.out.cell 7
  have y7 : w2.cell? ⟨w1.heap.size, 7, none⟩ = some (.slice q m d) := Y2.out.cell 7
  clear X1 X2 Y2
  go_enter Try.func45, Try.ntmps45
  cases t1
  · go_wp2
    go_ret
    exact ⟨rfl, B2.out⟩
  cases t3
  · go_wp2
    go_ret
    exact ⟨rfl, B2.out⟩
  cases t4
  · go_wp2
    go_ret
    exact ⟨rfl, B2.out⟩
  cases t5
  · go_wp2
    go_ret
    exact ⟨rfl, B2.out⟩
  cases t6
  · go_wp2
    go_ret
    exact ⟨rfl, B2.out⟩
  go_wp2_with fail
  refine (RS.out _ B2.out).mono ?_
  rintro e w3 ⟨rfl, hb⟩
  have B3 := Lib.hid (B2.out.trans (hb.mono B2.out.size))
  go_wp2
  go_ret
  exact ⟨rfl, B3.out⟩
end Lo
end Go.Proofs.Ytkfmkchonlajpaa

namespace Go.Proofs.Ytkfmkchonlajpaa
open Go.RowKit

namespace Lo
/-- A lot that is handed out: its stays lie in new memory. -/
def OwnEnd (x : Lt) (w : World) (e : Ending) (w' : World) : Prop := ∃ y : Lv, y.x = x ∧ e = .returned (lval y) ∧ St w' y ∧ (∀ k, Bk y k → w.heap.size ≤ k) ∧ Below w.heap.size w w'
set_option maxRecDepth 100000 in
set_option maxHeartbeats 4000000 in
theorem papart_any (y : Lv) (w : World) (h : St w y) (hn : y.n ≤ 1000000) : Calls Try.prog 25 #[lval y] w (OwnEnd y.x w) := by
  have hl := h.len
  have CK := Lib.hid (fun W (hW : Below w.heap.size w W) => Sy.clone_any y.p y.n y.c y.x.stays W (h.keep hW).1 (by omega))
  obtain ⟨⟨i1, i2, i3, i4, i5, i6, i7, S⟩, p, n, c⟩ := y
  simp only at hl hn CK
  unfold lval
  have B1 := Lib.hid (alloc_below w (.cells #[.int .i64 i1, .int .i64 i2, .int .i64 i3, .int .i64 i4, .int .i64 i5, .int .i64 i6, .int .i64 i7, .slice p n c] 32))
  have X1 := Lib.hid (Lies.new w 32 #[.int .i64 i1, .int .i64 i2, .int .i64 i3, .int .i64 i4, .int .i64 i5, .int .i64 i6, .int .i64 i7, .slice p n c])
  have s1 : (w.alloc (.cells #[.int .i64 i1, .int .i64 i2, .int .i64 i3, .int .i64 i4, .int .i64 i5, .int .i64 i6, .int .i64 i7, .slice p n c] 32)).heap.size = w.heap.size + 1 := by simp
  obtain ⟨w1, hw1⟩ : ∃ w1, w.alloc (.cells #[.int .i64 i1, .int .i64 i2, .int .i64 i3, .int .i64 i4, .int .i64 i5, .int .i64 i6, .int .i64 i7, .slice p n c] 32) = w1 := ⟨_, rfl⟩
  rw [hw1] at B1 X1 s1
  have B2 := Lib.hid (B1.out.alloc B1.out.size (.cells #[.int .i64 0, .int .i64 0, .int .i64 0, .int .i64 0, .int .i64 0, .int .i64 0, .int .i64 0, .slice none 0 0] 32))
  have X2 := Lib.hid (X1.out.alloc (.cells #[.int .i64 0, .int .i64 0, .int .i64 0, .int .i64 0, .int .i64 0, .int .i64 0, .int .i64 0, .slice none 0 0] 32))
  have Y2 := Lib.hid (Lies.new w1 32 #[.int .i64 0, .int .i64 0, .int .i64 0, .int .i64 0, .int .i64 0, .int .i64 0, .int .i64 0, .slice none 0 0])
  have s2 : (w1.alloc (.cells #[.int .i64 0, .int .i64 0, .int .i64 0, .int .i64 0, .int .i64 0, .int .i64 0, .int .i64 0, .slice none 0 0] 32)).heap.size = w1.heap.size + 1 := by simp
  obtain ⟨w2, hw2⟩ : ∃ w2, w1.alloc (.cells #[.int .i64 0, .int .i64 0, .int .i64 0, .int .i64 0, .int .i64 0, .int .i64 0, .int .i64 0, .slice none 0 0] 32) = w2 := ⟨_, rfl⟩
  rw [hw2] at B2 X2 Y2 s2
  have HS := Lib.hid (And.intro s1 s2)
  clear s1 s2 h
  have x7 : w2.cell? ⟨w.heap.size, 7, none⟩ = some (.slice p n c) := X2.out.cell 7
  go_enter Try.func25, Try.ntmps25
  go_wp2_with fail
  refine (CK.out _ B2.out).mono ?_
  intro e w3 he
  obtain ⟨v, rfl, ho, hb⟩ := he
  have X3 := Lib.hid (X2.out.below hb X2.out.lt)
  have Y3 := Lib.hid (Y2.out.below hb Y2.out.lt)
  have B3 := Lib.hid (B2.out.trans (hb.mono B2.out.size))
  obtain ⟨q, d, rfl⟩ := own_slice ho
  have O3 := Lib.hid ho
  have HX := Lib.hid X2.out.lt
  generalize hbz : w1.heap.size = bz at *
  clear hw1 hw2 x7 ho hb CK X2 Y2 B2 X1 B1
  have x0 : w3.cell? ⟨w.heap.size, 0, none⟩ = some (.int .i64 i1) := X3.out.cell 0
  have x1 : w3.cell? ⟨w.heap.size, 1, none⟩ = some (.int .i64 i2) := X3.out.cell 1
  have x2 : w3.cell? ⟨w.heap.size, 2, none⟩ = some (.int .i64 i3) := X3.out.cell 2
  have x3 : w3.cell? ⟨w.heap.size, 3, none⟩ = some (.int .i64 i4) := X3.out.cell 3
  have x4 : w3.cell? ⟨w.heap.size, 4, none⟩ = some (.int .i64 i5) := X3.out.cell 4
  have x5 : w3.cell? ⟨w.heap.size, 5, none⟩ = some (.int .i64 i6) := X3.out.cell 5
  have x6 : w3.cell? ⟨w.heap.size, 6, none⟩ = some (.int .i64 i7) := X3.out.cell 6
  have x7 : w3.cell? ⟨w.heap.size, 7, none⟩ = some (.slice p n c) := X3.out.cell 7
  have f7 : w3.frozen? ⟨w.heap.size, 7, none⟩ = false := X3.out.frozen 7
  have y0 : w3.cell? ⟨bz, 0, none⟩ = some (.int .i64 0) := Y3.out.cell 0
  have yf0 : w3.frozen? ⟨bz, 0, none⟩ = false := Y3.out.frozen 0
  have y1 : w3.cell? ⟨bz, 1, none⟩ = some (.int .i64 0) := Y3.out.cell 1
  have yf1 : w3.frozen? ⟨bz, 1, none⟩ = false := Y3.out.frozen 1
  have y2 : w3.cell? ⟨bz, 2, none⟩ = some (.int .i64 0) := Y3.out.cell 2
  have yf2 : w3.frozen? ⟨bz, 2, none⟩ = false := Y3.out.frozen 2
  have y3 : w3.cell? ⟨bz, 3, none⟩ = some (.int .i64 0) := Y3.out.cell 3
  have yf3 : w3.frozen? ⟨bz, 3, none⟩ = false := Y3.out.frozen 3
  have y4 : w3.cell? ⟨bz, 4, none⟩ = some (.int .i64 0) := Y3.out.cell 4
  have yf4 : w3.frozen? ⟨bz, 4, none⟩ = false := Y3.out.frozen 4
  have y5 : w3.cell? ⟨bz, 5, none⟩ = some (.int .i64 0) := Y3.out.cell 5
  have yf5 : w3.frozen? ⟨bz, 5, none⟩ = false := Y3.out.frozen 5
  have y6 : w3.cell? ⟨bz, 6, none⟩ = some (.int .i64 0) := Y3.out.cell 6
  have yf6 : w3.frozen? ⟨bz, 6, none⟩ = false := Y3.out.frozen 6
  have y7 : w3.cell? ⟨bz, 7, none⟩ = some (.slice none 0 0) := Y3.out.cell 7
  have yf7 : w3.frozen? ⟨bz, 7, none⟩ = false := Y3.out.frozen 7
  have hne : bz ≠ w.heap.size := by have := HS.out; omega
  have hne2 : w.heap.size ≠ bz := by omega
  have TT := Lib.hid (show Turn (fun k => k = w.heap.size ∨ k = bz) w3 w3 from Turn.refl _ _)
  have HF := Lib.hid (show ∀ W, Turn (fun k => k = w.heap.size ∨ k = bz) w3 W → St W ⟨⟨i1, i2, i3, i4, i5, i6, i7, S⟩, q, S.length, d⟩ ∧ (∀ k, Bk ⟨⟨i1, i2, i3, i4, i5, i6, i7, S⟩, q, S.length, d⟩ k → w.heap.size ≤ k) ∧ Below w.heap.size w W from fun W hW => by
    obtain ⟨q', d', e, hc, hr⟩ := rw_own Sy.scells_len O3.out
    injection e with e1 e2 e3
    subst e1 e3
    have hbk : ∀ k, Bk ⟨⟨i1, i2, i3, i4, i5, i6, i7, S⟩, q, S.length, d⟩ k → w2.heap.size ≤ k := fun k hk => by
      obtain ⟨h0, a, ha, rfl⟩ := hk
      obtain ⟨b, cc, e, h1, _, _⟩ := own_some O3.out h0
      injection e with e _ _
      simp only at ha
      rw [ha] at e
      injection e with e
      rw [e]
      exact h1
    have h1 := HS.out
    refine ⟨St.turn ⟨hr, hc⟩ hW (fun k hk hh => ?_), fun k hk => ?_, hW.below B3.out B3.out.size (fun i hi => ?_)⟩
    · have := hbk k hk
      omega
    · have := hbk k hk
      omega
    · omega)
  clear X3 Y3 O3 HS B3 HX
  go_wp2
  refine bodyPost_ret (v := lval ⟨⟨i1, i2, i3, i4, i5, i6, i7, S⟩, q, S.length, d⟩) (by simp [results, Try.results25, go_sem, lval, hl, y0, y1, y2, y3, y4, y5, y6, y7]) rfl ?_
  refine ⟨⟨⟨i1, i2, i3, i4, i5, i6, i7, S⟩, q, S.length, d⟩, rfl, rfl, HF.out _ ?_⟩
  iterate 9 refine Turn.setCell ?_ (by first | exact .inl (.inl rfl) | exact .inl (.inr rfl)) _
  exact TT.out
/-- The least of four. -/
def m4 (a b c d : Int) : Int := if d < (if c < (if b < a then b else a) then c else (if b < a then b else a)) then d else (if c < (if b < a then b else a) then c else (if b < a then b else a))
theorem m4_ge (a b c d : Int) : decide (0 ≤ a ∧ 0 ≤ b ∧ 0 ≤ c ∧ 0 ≤ d) = decide (0 ≤ m4 a b c d) := by
  rw [decide_eq_decide]
  unfold m4
  constructor
  · intro h
    split <;> (try split) <;> (try split) <;> omega
  · intro h
    split at h <;> (try split at h) <;> (try split at h) <;> omega
theorem run_m4 (ts : Array TypeId) (t : TypeId) (a b c d : Int) (w : World) : (Builtin.min_ ts t #[.int .i64 a, .int .i64 b, .int .i64 c, .int .i64 d]).run Try.prog w = .ok (.int .i64 (m4 a b c d)) w := by
  simp [Builtin.min_, Builtin.min2, m4]
/-- Whether it may come, whatever its number. -/
def mayB (x : Lt) : Bool := (decide (1 ≤ x.units) && decide (x.units ≤ 1048576)) && ((decide (0 ≤ x.status) && decide (x.status ≤ 4)) && (Sy.rightB x.stays && decide (0 ≤ x.product ∧ 0 ≤ x.expiry ∧ 0 ≤ x.grant ∧ 0 ≤ x.order)))
set_option maxRecDepth 100000 in
set_option maxHeartbeats 8000000 in
theorem pmaybe_any (y : Lv) (w : World) (h : St w y) (hn : y.n ≤ 1000000) : Calls Try.prog 23 #[lval y] w fun e w' => e = .returned (.bool (mayB y.x)) ∧ Below w.heap.size w w' := by
  have RT := Lib.hid (fun W (hW : Below w.heap.size w W) => Sy.sface.right y.p y.n y.c y.x.stays W (h.keep hW).1 (by omega))
  have HA : Hid (mayB y.x = ((decide (1 ≤ y.x.units) && decide (y.x.units ≤ 1048576)) && ((decide (0 ≤ y.x.status) && decide (y.x.status ≤ 4)) && (Sy.rightB y.x.stays && decide (0 ≤ y.x.product ∧ 0 ≤ y.x.expiry ∧ 0 ≤ y.x.grant ∧ 0 ≤ y.x.order))))) := Lib.hid rfl
  rw [HA.out]
  clear h HA
  obtain ⟨⟨i1, i2, i3, i4, i5, i6, i7, S⟩, p, n, c⟩ := y
  unfold lval
  simp only at RT hn ⊢
  have MM := Lib.hid (fun (ts : Array TypeId) (t : TypeId) W => run_m4 ts t i2 i4 i5 i6 W)
  rw [m4_ge]
  generalize m4 i2 i4 i5 i6 = mm at *
  generalize Sy.rightB S = t0 at *
  have CU := Lib.hid (fun W => pu_any i3 W)
  have CS := Lib.hid (fun W => pst_any i7 W)
  generalize (decide (1 ≤ i3) && decide (i3 ≤ 1048576)) = t1 at *
  generalize (decide (0 ≤ i7) && decide (i7 ≤ 4)) = t2 at *
  have B1 := Lib.hid (alloc_below w (.cells #[.int .i64 i1, .int .i64 i2, .int .i64 i3, .int .i64 i4, .int .i64 i5, .int .i64 i6, .int .i64 i7, .slice p n c] 32))
  have X1 := Lib.hid (Lies.new w 32 #[.int .i64 i1, .int .i64 i2, .int .i64 i3, .int .i64 i4, .int .i64 i5, .int .i64 i6, .int .i64 i7, .slice p n c])
  obtain ⟨w1, hw1⟩ : ∃ w1, w.alloc (.cells #[.int .i64 i1, .int .i64 i2, .int .i64 i3, .int .i64 i4, .int .i64 i5, .int .i64 i6, .int .i64 i7, .slice p n c] 32) = w1 := ⟨_, rfl⟩
  rw [hw1] at B1 X1
  have x0 : w1.cell? ⟨w.heap.size, 0, none⟩ = some (.int .i64 i1) := X1.out.cell 0
  have x1 : w1.cell? ⟨w.heap.size, 1, none⟩ = some (.int .i64 i2) := X1.out.cell 1
  have x2 : w1.cell? ⟨w.heap.size, 2, none⟩ = some (.int .i64 i3) := X1.out.cell 2
  have x3 : w1.cell? ⟨w.heap.size, 3, none⟩ = some (.int .i64 i4) := X1.out.cell 3
  have x4 : w1.cell? ⟨w.heap.size, 4, none⟩ = some (.int .i64 i5) := X1.out.cell 4
  have x5 : w1.cell? ⟨w.heap.size, 5, none⟩ = some (.int .i64 i6) := X1.out.cell 5
  have x6 : w1.cell? ⟨w.heap.size, 6, none⟩ = some (.int .i64 i7) := X1.out.cell 6
  have x7 : w1.cell? ⟨w.heap.size, 7, none⟩ = some (.slice p n c) := X1.out.cell 7
  go_enter Try.func23, Try.ntmps23
  go_wp2_with fail
  refine (CU.out _).mono ?_
  rintro e w' ⟨rfl, rfl⟩
  cases t1
  · go_wp2
    go_ret
    exact ⟨rfl, B1.out⟩
  go_wp2_with fail
  refine (CS.out _).mono ?_
  rintro e w' ⟨rfl, rfl⟩
  cases t2
  · go_wp2
    go_ret
    exact ⟨rfl, B1.out⟩
  go_wp2_with fail
  refine (RT.out _ B1.out).mono ?_
  rintro e w2 ⟨rfl, hb⟩
  have B2 := Lib.hid (B1.out.trans (hb.mono B1.out.size))
  have X2 := Lib.hid (X1.out.below hb X1.out.lt)
  clear x0 x1 x2 x3 x4 x5 x6 x7 hb RT B1 hw1 CU CS
  have x0 : w2.cell? ⟨w.heap.size, 0, none⟩ = some (.int .i64 i1) := X2.out.cell 0
  have x1 : w2.cell? ⟨w.heap.size, 1, none⟩ = some (.int .i64 i2) := X2.out.cell 1
  have x2 : w2.cell? ⟨w.heap.size, 2, none⟩ = some (.int .i64 i3) := X2.out.cell 2
  have x3 : w2.cell? ⟨w.heap.size, 3, none⟩ = some (.int .i64 i4) := X2.out.cell 3
  have x4 : w2.cell? ⟨w.heap.size, 4, none⟩ = some (.int .i64 i5) := X2.out.cell 4
  have x5 : w2.cell? ⟨w.heap.size, 5, none⟩ = some (.int .i64 i6) := X2.out.cell 5
  have x6 : w2.cell? ⟨w.heap.size, 6, none⟩ = some (.int .i64 i7) := X2.out.cell 6
  have x7 : w2.cell? ⟨w.heap.size, 7, none⟩ = some (.slice p n c) := X2.out.cell 7
  cases t0
  · go_wp2
    go_ret
    exact ⟨rfl, B2.out⟩
  have MN := MM.out
  go_wp2
  go_ret
  exact ⟨rfl, B2.out⟩
end Lo
end Go.Proofs.Ytkfmkchonlajpaa
