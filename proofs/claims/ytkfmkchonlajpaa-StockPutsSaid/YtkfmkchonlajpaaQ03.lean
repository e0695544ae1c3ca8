/- Maps from whole numbers to things of one form, as lists in the order of that number. No condition but those written. What layer 10's laws, and later layers, lean on of package master: a bundle of contracts, whatever the package is like inside. No condition but those written. What layer 12's laws, and later layers, lean on of package stock: a bundle of contracts, whatever the package is like inside. No condition but those written. A master and a stock side by side. Condition: the contracts of packages master and stock. Walks over the document's answer of layer 9: whether stays are the same. No condition but those written. Walks over the document's answer of layer 12: the zone where a lot is; two lots side by side. No condition but those written. Walks over the document's answer of layer 12: two lots, two lists of lots; a lot's place, a zone's load. No condition but those written. -/
import Derived.Test.YtkfmkchonlajpaaQ02
import Derived.Lib.Hide
import Derived.Lib.SlKeysI
import Derived.Maps.OwnSet
import Derived.Maps.Views
import Derived.Maps.Ext
import Derived.BigQuiet
import Derived.Deep.QuietTactic
import Derived.Deep.RegionHeld3
namespace Go.Proofs.Ytkfmkchonlajpaa
open Go.RowKit Go.Maps

namespace Ms
theorem lawI : Keyed Try.prog 3 := int_keyed Try.underlying3
def In64 (m : Int) : Prop := (Lit.int .i64 m).wf = true
theorem key_of {n : Int} (h : In64 n) : keyOf Try.prog 3 (.int .i64 n) = some (.int .i64 n) := keyOf_int_mk Try.underlying3 h
theorem in64_of {m : Int} (h0 : -9223372036854775808 ≤ m) (h1 : m ≤ 9223372036854775807) : In64 m := WalkArith.wf_i64 ⟨h0, h1⟩
theorem key_lit (n : Int) : WideAt.IsKeyLit (.int .i64 n) := trivial
theorem lit_ne {a b : Int} (h : a ≠ b) : Lit.int .i64 a ≠ Lit.int .i64 b := fun e => by
  injection e with _ e
  exact h e
/-- A form of things: the value of each, and what it reads as. -/
structure Form (α : Type) where
  enc : α → Value
  dat : α → DataW Unit
  inj : ∀ {x y}, enc x = enc y → x = y
  dinj : ∀ {x y}, dat x = dat y → x = y
section
variable {α : Type} (Fm : Form α)
open Classical in
/-- How a value reads. -/
noncomputable def rdF (v : Value) : Option (DataW Unit × List MemPlace) := if h : ∃ x, Fm.enc x = v then some (Fm.dat h.choose, []) else none
variable {Fm}
theorem rd_mk (x : α) : rdF Fm (Fm.enc x) = some (Fm.dat x, []) := by
  have h : ∃ y, Fm.enc y = Fm.enc x := ⟨x, rfl⟩
  unfold rdF
  rw [dif_pos h, Fm.inj h.choose_spec]
theorem rd_inv {v : Value} {z : DataW Unit × List MemPlace} (h : rdF Fm v = some z) : ∃ x, v = Fm.enc x ∧ z = (Fm.dat x, []) := by
  unfold rdF at h
  by_cases hx : ∃ x, Fm.enc x = v
  · rw [dif_pos hx] at h
    exact ⟨hx.choose, hx.choose_spec.symm, (Option.some.inj h).symm⟩
  · rw [dif_neg hx] at h
    cases h
theorem own_like {w w' : World} {b n : Nat} {D : DataW Unit} (h : w.ownsMap Try.prog 3 (rdF Fm) b n D) (e : w'.heap[b]? = w.heap[b]?) : w'.ownsMap Try.prog 3 (rdF Fm) b n D := by
  obtain ⟨es, clock, hb, F, hs, hD⟩ := h
  exact ⟨es, clock, e.trans hb, F, hs, hD⟩
theorem own_tight {w : World} {b n : Nat} {D : DataW Unit} (h : w.ownsMap Try.prog 3 (rdF Fm) b n D) : w.ownsMap Try.prog 3 (rdF Fm) b (Maps.size D) D := by
  obtain ⟨es, clock, hb, F, hs, rfl⟩ := h
  refine ⟨es, clock, hb, F, ?_, rfl⟩
  rw [Maps.size_eq, length_sorted]
  simp
variable (Fm) (key : α → Int)
/-- A map that holds just these. -/
structure Mp (D : DataW Unit) (S : List α) : Prop where
  each : ∀ x ∈ S, ∀ z, D.atKey (.int .i64 (key x)) z = Fm.dat x
  only : ∀ n, Maps.has D (.int .i64 n) = true → ∃ x ∈ S, key x = n
  size : Maps.size D = S.length
variable {Fm key}
theorem mp_nil : Mp Fm key (.map []) [] := ⟨fun x hx => by simp at hx, fun n h => by simp [Maps.has] at h, rfl⟩
theorem mp_has {D : DataW Unit} {S : List α} (h : Mp Fm key D S) (n : Int) : Maps.has D (.int .i64 n) = (findK key n S).isSome := by
  cases hf : findK key n S with
  | none =>
    cases hb : Maps.has D (.int .i64 n)
    · rfl
    · obtain ⟨x, hx, e⟩ := h.only n hb
      exact absurd e (find_none.1 hf x hx)
  | some x =>
    obtain ⟨hx, e⟩ := find_some hf
    rw [← e]
    exact Maps.has_true_of_atKey (h.each x hx)
theorem mp_at {D : DataW Unit} {S : List α} (h : Mp Fm key D S) (n : Int) (x0 : α) : D.atKey (.int .i64 n) (Fm.dat x0) = Fm.dat ((findK key n S).getD x0) := by
  cases hf : findK key n S with
  | none =>
    rw [Maps.atKey_of_not_has (by rw [mp_has h, hf]; rfl)]
    rfl
  | some x =>
    obtain ⟨hx, e⟩ := find_some hf
    rw [← e]
    exact h.each x hx _
/-- One more. -/
theorem mp_put {D : DataW Unit} {S : List α} (h : Mp Fm key D S) (ht : Maps.Tidy D) {x : α} (hn : findK key (key x) S = none) : Mp Fm key (D.put (.int .i64 (key x)) (Fm.dat x)) (ins key x S) := by
  have hno := find_none.1 hn
  refine ⟨fun y hy z => ?_, fun n hh => ?_, ?_⟩
  · rcases ins_mem.1 hy with rfl | hy
    · exact Maps.atKey_put_same ht.isMap (key_lit _) _ _
    · rw [Maps.atKey_put_other (lit_ne (hno y hy))]
      exact h.each y hy z
  · by_cases e : n = key x
    · exact ⟨x, ins_mem.2 (.inl rfl), e.symm⟩
    · rw [Maps.has_put_other (lit_ne e)] at hh
      obtain ⟨y, hy, e2⟩ := h.only n hh
      exact ⟨y, ins_mem.2 (.inr hy), e2⟩
  · rw [Maps.size_put ht, if_neg (by rw [mp_has h, hn]; exact Bool.false_ne_true), h.size, ins_len]
/-- Its numbers, in order. -/
theorem mp_keys {w : World} {b n : Nat} {D : DataW Unit} {S : List α} (hown : w.ownsMap Try.prog 3 (rdF Fm) b n D) (h : Mp Fm key D S) (hS : Ord key S) {ss : List Int} (hp : ss.Perm (intKeys D)) :
    ss.length = S.length ∧ ss.mergeSort (fun x y => decide (x ≤ y)) = S.map key := by
  obtain ⟨es, hD, hpw, _⟩ := hown.entries lawI
  obtain ⟨es', hD', hko⟩ := hown.keysOf
  obtain rfl : es = es' := by rw [hD] at hD'; simpa using hD'
  subst hD
  have hnd : (S.map key).Nodup := by
    refine List.pairwise_map.2 (hS.imp fun {a b} h => ?_)
    omega
  have hq : (S.map key).Perm (intKeys (.map es)) := perm_intKeys hpw (fun p hp => by
    obtain ⟨v, hv⟩ := hko p hp
    obtain ⟨x, _, hx, _⟩ := Maps.keyOf_i64 Try.underlying3 hv
    exact ⟨x, hx⟩) hnd (fun n => by
    rw [List.mem_map]
    constructor
    · rintro ⟨x, hx, rfl⟩
      exact Maps.has_true_of_atKey (h.each x hx)
    · intro hn
      obtain ⟨x, hx, e⟩ := h.only n hn
      exact ⟨x, hx, e⟩)
  have hqq := hp.trans hq.symm
  refine ⟨by rw [hqq.length_eq, List.length_map], ?_⟩
  have h1 := mergeSort_of_perm_i hqq
  refine h1.trans (List.mergeSort_of_pairwise (List.pairwise_map.2 (hS.imp fun {a b} h => ?_)))
  simp only [leI, decide_eq_true_eq]
  omega
set_option maxRecDepth 100000 in
/-- What a number holds: with a word on whether there is any. -/
theorem look {w : World} {b n : Nat} {D : DataW Unit} {S : List α} {t e : TypeId} (ht : Try.prog.underlying t = some (.map 3 e)) (x0 : α) (hz : ∀ W, (zeroValue e).run Try.prog W = .ok (Fm.enc x0) W) (hown : w.ownsMap Try.prog 3 (rdF Fm) b n D) (h : Mp Fm key D S) {m : Int} (hm : In64 m) (W : World) (hW : W.heap[b]? = w.heap[b]?) :
    (Instr.lookup t (.map (some b)) (.int .i64 m) true).run Try.prog W = .ok (.tuple #[Fm.enc ((findK key m S).getD x0), .bool (findK key m S).isSome]) W := by
  obtain ⟨v, ps, hrun, hv⟩ := (own_like hown hW).look_ok lawI ht (hz W) (zd := Fm.dat x0) (rd_mk x0) (key_of hm)
  obtain ⟨y, rfl, hy⟩ := rd_inv hv
  injection hy with hy _
  rw [mp_at h] at hy
  rw [hrun, mp_has h, Fm.dinj hy]
set_option maxRecDepth 100000 in
theorem look1 {w : World} {b n : Nat} {D : DataW Unit} {S : List α} {t e : TypeId} (ht : Try.prog.underlying t = some (.map 3 e)) (x0 : α) (hz : ∀ W, (zeroValue e).run Try.prog W = .ok (Fm.enc x0) W) (hown : w.ownsMap Try.prog 3 (rdF Fm) b n D) (h : Mp Fm key D S) {m : Int} (hm : In64 m) (W : World) (hW : W.heap[b]? = w.heap[b]?) :
    (Instr.lookup t (.map (some b)) (.int .i64 m) false).run Try.prog W = .ok (Fm.enc ((findK key m S).getD x0)) W := by
  obtain ⟨v, ps, hrun, hv⟩ := (own_like hown hW).lookup lawI ht (hz W) (zd := Fm.dat x0) (rd_mk x0) (key_of hm)
  obtain ⟨y, rfl, hy⟩ := rd_inv hv
  injection hy with hy _
  rw [mp_at h] at hy
  rw [hrun, Fm.dinj hy]
/-- A cell that leads to nothing, or to a map of these. -/
def Tab (Fm : Form α) (key : α → Int) (w : World) (B : Nat) (mo : Option Nat) (S : List α) : Prop :=
  (mo = none ∧ S = []) ∨ ∃ b D, mo = some b ∧ B ≤ b ∧ w.ownsMap Try.prog 3 (rdF Fm) b S.length D ∧ Mp Fm key D S
theorem tab_lt {w : World} {B : Nat} {mo : Option Nat} {S : List α} (h : Tab Fm key w B mo S) {k : Nat} (hk : mo = some k) : B ≤ k ∧ k < w.heap.size := by
  rcases h with ⟨e, _⟩ | ⟨b, D, e, hB, hown, _⟩
  · rw [e] at hk
    cases hk
  · rw [e] at hk
    obtain rfl := Option.some.inj hk
    exact ⟨hB, hown.lt⟩
theorem tab_turn {w w' : World} {B : Nat} {mo : Option Nat} {S : List α} {T : Nat → Prop} (h : Tab Fm key w B mo S) (ht : Turn T w w') (hn : ∀ k, mo = some k → ¬ T k) : Tab Fm key w' B mo S := by
  rcases h with h | ⟨b, D, e, hB, hown, hM⟩
  · exact .inl h
  · exact .inr ⟨b, D, e, hB, own_like hown (ht.block b hown.lt (hn b e)), hM⟩
/-- A map's block is none whose cells lie. -/
theorem tab_ne {w : World} {B : Nat} {mo : Option Nat} {S : List α} (h : Tab Fm key w B mo S) {g : Nat} {t : TypeId} {cs : Array Value} (hl : Lies w g t cs) : mo ≠ some g := by
  rcases h with ⟨e, _⟩ | ⟨b, D, e, _, ⟨es, clock, hb, _⟩, _⟩
  · rw [e]
    intro h
    cases h
  · rw [e]
    intro h
    obtain rfl := Option.some.inj h
    have e2 := Option.some.inj (Eq.trans (Eq.symm hb) hl)
    cases e2
end
def zval (z : Zn) : Value := .agg #[.int .i64 z.id, .int .i64 z.worst, .int .i64 z.gap, .int .i64 z.room, .bool z.dock, .int .i64 z.ajar]
def zcells (z : Zn) : List Value := [.int .i64 z.id, .int .i64 z.worst, .int .i64 z.gap, .int .i64 z.room, .bool z.dock, .int .i64 z.ajar]
def zdat (z : Zn) : DataW Unit := .agg [.lit (.int .i64 z.id), .lit (.int .i64 z.worst), .lit (.int .i64 z.gap), .lit (.int .i64 z.room), .lit (.bool z.dock), .lit (.int .i64 z.ajar)]
def pval (p : Pd) : Value := .agg #[.int .i64 p.id, .int .i64 p.limit, .int .i64 p.budget]
def pcells (p : Pd) : List Value := [.int .i64 p.id, .int .i64 p.limit, .int .i64 p.budget]
def pdat (p : Pd) : DataW Unit := .agg [.lit (.int .i64 p.id), .lit (.int .i64 p.limit), .lit (.int .i64 p.budget)]
theorem zcells_len (z : Zn) : (zcells z).length = 6 := rfl
theorem pcells_len (p : Pd) : (pcells p).length = 3 := rfl
def Zf : Form Zn := ⟨zval, zdat, fun {x y} h => by
  simp only [zval, Value.agg.injEq, Array.mk.injEq, List.cons.injEq, Value.int.injEq, Value.bool.injEq, true_and, and_true] at h
  exact zn_ext h, fun {x y} h => by
  simp only [zdat, DataW.agg.injEq, List.cons.injEq, DataW.lit.injEq, Lit.int.injEq, Lit.bool.injEq, true_and, and_true] at h
  exact zn_ext h⟩
def Pf : Form Pd := ⟨pval, pdat, fun {x y} h => by
  simp only [pval, Value.agg.injEq, Array.mk.injEq, List.cons.injEq, Value.int.injEq, true_and, and_true] at h
  exact pd_ext h, fun {x y} h => by
  simp only [pdat, DataW.agg.injEq, List.cons.injEq, DataW.lit.injEq, Lit.int.injEq, true_and, and_true] at h
  exact pd_ext h⟩
theorem zeroZ (W : World) : (zeroValue 45).run Try.prog W = .ok (Zf.enc zn0) W := by kernel_rfl
theorem zeroP (W : World) : (zeroValue 48).run Try.prog W = .ok (Pf.enc pd0) W := by kernel_rfl
end Ms
end Go.Proofs.Ytkfmkchonlajpaa

namespace Go.Proofs.Ytkfmkchonlajpaa
open Go.RowKit

namespace Ms
/-- Zones, products, in order, that may be. -/
structure GoodZ (S : List Zn) : Prop where
  ord : Ord Zn.id S
  right : ∀ x ∈ S, rightZ x = true
structure GoodP (S : List Pd) : Prop where
  ord : Ord Pd.id S
  right : ∀ x ∈ S, rightP x = true
theorem goodZ_nil : GoodZ [] := ⟨ord_nil, fun x hx => by simp at hx⟩
theorem goodP_nil : GoodP [] := ⟨ord_nil, fun x hx => by simp at hx⟩
theorem rightZ_id {x : Zn} (h : rightZ x = true) : 1 ≤ x.id ∧ x.id ≤ 16 := by
  unfold rightZ at h
  exact ft_t.1 ((Bool.and_eq_true _ _).mp h).1
theorem rightP_id {x : Pd} (h : rightP x = true) : 1 ≤ x.id ∧ x.id ≤ 16 := by
  unfold rightP at h
  exact ft_t.1 ((Bool.and_eq_true _ _).mp h).1
theorem goodZ_add {S : List Zn} (h : GoodZ S) (z : Zn) : GoodZ (addZ S z).2 := by
  refine ⟨addZ_ord h.ord, fun x hx => ?_⟩
  unfold addZ at hx
  split at hx
  · rename_i hr
    unfold addL at hx
    split at hx
    · exact h.right x hx
    · rcases ins_mem.1 hx with rfl | hx
      · exact hr
      · exact h.right x hx
  · exact h.right x hx
theorem goodP_add {S : List Pd} (h : GoodP S) (z : Pd) : GoodP (addP S z).2 := by
  refine ⟨addP_ord h.ord, fun x hx => ?_⟩
  unfold addP at hx
  split at hx
  · rename_i hr
    unfold addL at hx
    split at hx
    · exact h.right x hx
    · rcases ins_mem.1 hx with rfl | hx
      · exact hr
      · exact h.right x hx
  · exact h.right x hx
/-- A list that is handed out: the call's own row. -/
def ZsEnd (Z : List Zn) (w : World) (e : Ending) (w' : World) : Prop := ∃ v, e = .returned v ∧ w'.ownsRow w.heap.size 45 6 v Z.length (Z.flatMap zcells) ∧ Below w.heap.size w w'
def PsEnd (P : List Pd) (w : World) (e : Ending) (w' : World) : Prop := ∃ v, e = .returned v ∧ w'.ownsRow w.heap.size 48 3 v P.length (P.flatMap pcells) ∧ Below w.heap.size w w'
/-- Contracts of package master: a master at block h, its memory F, its zones and products in order. -/
structure Face where
  DB : World → Nat → Nat → (Nat → Prop) → List Zn → List Pd → Prop
  foot : ∀ {w : World} {B h : Nat} {F : Nat → Prop} {Z : List Zn} {P : List Pd} {k : Nat}, DB w B h F Z P → F k → B ≤ k ∧ k < w.heap.size
  turn : ∀ {w w' : World} {B h : Nat} {F T : Nat → Prop} {Z : List Zn} {P : List Pd}, DB w B h F Z P → Turn T w w' → (∀ k, F k → ¬ T k) → DB w' B h F Z P
  new : ∀ (w : World), Calls Try.prog 15 #[] w fun e w' => ∃ h F, e = .returned (.pointer (some ⟨h, 0, none⟩)) ∧ DB w' w.heap.size h F [] [] ∧ Below w.heap.size w w'
  addZ : ∀ (B h : Nat) (F : Nat → Prop) (Z : List Zn) (P : List Pd) (z : Zn) (w : World), DB w B h F Z P → GoodZ Z → Z.length ≤ 1000 → Calls Try.prog 16 #[.pointer (some ⟨h, 0, none⟩), zval z] w fun e w' =>
    e = .returned (.int .i64 ((addZ Z z).1 : Nat)) ∧ ∃ F', DB w' B h F' (addZ Z z).2 P ∧ Turn F w w' ∧ ∀ k, F' k → F k ∨ w.heap.size ≤ k
  addP : ∀ (B h : Nat) (F : Nat → Prop) (Z : List Zn) (P : List Pd) (p : Pd) (w : World), DB w B h F Z P → GoodP P → P.length ≤ 1000 → Calls Try.prog 17 #[.pointer (some ⟨h, 0, none⟩), pval p] w fun e w' =>
    e = .returned (.int .i64 ((addP P p).1 : Nat)) ∧ ∃ F', DB w' B h F' Z (addP P p).2 ∧ Turn F w w' ∧ ∀ k, F' k → F k ∨ w.heap.size ≤ k
  zone : ∀ (B h : Nat) (F : Nat → Prop) (Z : List Zn) (P : List Pd) (m : Int) (w : World), DB w B h F Z P → -9223372036854775808 ≤ m → m ≤ 9223372036854775807 → Calls Try.prog 56 #[.pointer (some ⟨h, 0, none⟩), .int .i64 m] w fun e w' =>
    e = .returned (.tuple #[zval (getK (findK Zn.id m Z) zn0).1, .int .i64 ((getK (findK Zn.id m Z) zn0).2 : Nat)]) ∧ Below w.heap.size w w'
  product : ∀ (B h : Nat) (F : Nat → Prop) (Z : List Zn) (P : List Pd) (m : Int) (w : World), DB w B h F Z P → -9223372036854775808 ≤ m → m ≤ 9223372036854775807 → Calls Try.prog 39 #[.pointer (some ⟨h, 0, none⟩), .int .i64 m] w fun e w' =>
    e = .returned (.tuple #[pval (getK (findK Pd.id m P) pd0).1, .int .i64 ((getK (findK Pd.id m P) pd0).2 : Nat)]) ∧ Below w.heap.size w w'
  nil_addZ : ∀ (z : Zn) (w : World), Calls Try.prog 16 #[.pointer none, zval z] w fun e w' => e = .returned (.int .i64 1) ∧ Below w.heap.size w w'
  nil_addP : ∀ (p : Pd) (w : World), Calls Try.prog 17 #[.pointer none, pval p] w fun e w' => e = .returned (.int .i64 1) ∧ Below w.heap.size w w'
  nil_zone : ∀ (m : Int) (w : World), Calls Try.prog 56 #[.pointer none, .int .i64 m] w fun e w' => e = .returned (.tuple #[zval zn0, .int .i64 1]) ∧ Below w.heap.size w w'
  nil_product : ∀ (m : Int) (w : World), Calls Try.prog 39 #[.pointer none, .int .i64 m] w fun e w' => e = .returned (.tuple #[pval pd0, .int .i64 1]) ∧ Below w.heap.size w w'
theorem Face.keep (I : Face) {w w' : World} {B h : Nat} {F : Nat → Prop} {Z : List Zn} {P : List Pd} (hp : I.DB w B h F Z P) (hb : Below w.heap.size w w') : I.DB w' B h F Z P :=
  I.turn hp (T := fun _ => False) (Turn.of_below hb) (fun _ _ hf => hf)
theorem Face.next_below (I : Face) {w wi w' : World} {B h : Nat} {F : Nat → Prop} {Z Z' : List Zn} {P P' : List Pd} (hp : I.DB wi B h F Z P) (hb : Below B w wi) (hB : B ≤ wi.heap.size) (h' : ∃ F', I.DB w' B h F' Z' P' ∧ Turn F wi w' ∧ ∀ k, F' k → F k ∨ wi.heap.size ≤ k) :
    ∃ F', I.DB w' B h F' Z' P' ∧ Below B w w' := by
  obtain ⟨F', h1, ht, _⟩ := h'
  exact ⟨F', h1, ht.below hb hB (fun i hi => (I.foot hp hi).1)⟩
end Ms
end Go.Proofs.Ytkfmkchonlajpaa

namespace Go.Proofs.Ytkfmkchonlajpaa
open Go.RowKit

namespace Lo
/-- What an act leaves of a stock. -/
def Left (DB : World → Nat → Nat → (Nat → Prop) → Stk → Prop) (w : World) (B h : Nat) (F : Nat → Prop) (s : Stk) (w' : World) : Prop := ∃ F', DB w' B h F' s ∧ Turn F w w' ∧ ∀ k, F' k → F k ∨ w.heap.size ≤ k
/-- A lot that is handed out: its stays lie in new memory. -/
def LotEnd (x : Lt) (c : Nat) (w : World) (e : Ending) (w' : World) : Prop := ∃ y : Lv, y.x = x ∧ e = .returned (.tuple #[lval y, .int .i64 (c : Nat)]) ∧ St w' y ∧ (∀ k, Bk y k → w.heap.size ≤ k) ∧ Below w.heap.size w w'
/-- A list that is handed out: the call's own row, the stays in new memory. -/
def LotsEnd (l : List Lt) (w : World) (e : Ending) (w' : World) : Prop :=
  ∃ v L, lts L = l ∧ e = .returned v ∧ w'.ownsRow w.heap.size 32 8 v L.length (L.flatMap lcells) ∧ (∀ y ∈ L, St w' y ∧ ∀ k, Bk y k → w.heap.size ≤ k) ∧ Below w.heap.size w w'
def I64 (x : Int) : Prop := -9223372036854775808 ≤ x ∧ x ≤ 9223372036854775807
/-- Contracts of package stock: a stock at block h, its memory F. -/
structure Face (M : Ms.Face) where
  DB : World → Nat → Nat → (Nat → Prop) → Stk → Prop
  foot : ∀ {w : World} {B h : Nat} {F : Nat → Prop} {s : Stk} {k : Nat}, DB w B h F s → F k → B ≤ k ∧ k < w.heap.size
  turn : ∀ {w w' : World} {B h : Nat} {F T : Nat → Prop} {s : Stk}, DB w B h F s → Turn T w w' → (∀ k, F k → ¬ T k) → DB w' B h F s
  new : ∀ (w : World), Calls Try.prog 5 #[] w fun e w' => ∃ h F, e = .returned (.pointer (some ⟨h, 0, none⟩)) ∧ DB w' w.heap.size h F ([], 0) ∧ Below w.heap.size w w'
  recv : ∀ (B h Bm hm : Nat) (F Fm : Nat → Prop) (s : Stk) (Z : List Ms.Zn) (P : List Ms.Pd) (product zone units expiry now : Int) (w : World), DB w B h F s → M.DB w Bm hm Fm Z P → (∀ k, F k → ¬ Fm k) → Good s → Ms.GoodZ Z → Ms.GoodP P → Z.length ≤ 1000 → P.length ≤ 1000 →
    I64 product → I64 zone → I64 units → I64 expiry → I64 now →
    Calls Try.prog 18 #[.pointer (some ⟨h, 0, none⟩), .pointer (some ⟨hm, 0, none⟩), .int .i64 product, .int .i64 zone, .int .i64 units, .int .i64 expiry, .int .i64 now] w fun e w' =>
      e = .returned (.tuple #[.int .i64 (recvS Z P s product zone units expiry now).1.1, .int .i64 ((recvS Z P s product zone units expiry now).1.2 : Nat)]) ∧ Left DB w B h F (recvS Z P s product zone units expiry now).2 w'
  move : ∀ (B h Bm hm : Nat) (F Fm : Nat → Prop) (s : Stk) (Z : List Ms.Zn) (P : List Ms.Pd) (id zone now : Int) (w : World), DB w B h F s → M.DB w Bm hm Fm Z P → (∀ k, F k → ¬ Fm k) → Good s → Ms.GoodZ Z → Ms.GoodP P → Z.length ≤ 1000 → P.length ≤ 1000 →
    I64 id → I64 zone → I64 now →
    Calls Try.prog 20 #[.pointer (some ⟨h, 0, none⟩), .pointer (some ⟨hm, 0, none⟩), .int .i64 id, .int .i64 zone, .int .i64 now] w fun e w' =>
      e = .returned (.int .i64 ((moveS Z s id zone now).1 : Nat)) ∧ Left DB w B h F (moveS Z s id zone now).2 w'
  split : ∀ (B h : Nat) (F : Nat → Prop) (s : Stk) (id units : Int) (w : World), DB w B h F s → Good s → I64 id → I64 units →
    Calls Try.prog 19 #[.pointer (some ⟨h, 0, none⟩), .int .i64 id, .int .i64 units] w fun e w' =>
      e = .returned (.tuple #[.int .i64 (splitS s id units).1.1, .int .i64 ((splitS s id units).1.2 : Nat)]) ∧ Left DB w B h F (splitS s id units).2 w'
  merge : ∀ (B h : Nat) (F : Nat → Prop) (s : Stk) (into frm : Int) (w : World), DB w B h F s → Good s → I64 into → I64 frm →
    Calls Try.prog 21 #[.pointer (some ⟨h, 0, none⟩), .int .i64 into, .int .i64 frm] w fun e w' =>
      e = .returned (.int .i64 ((mergeS s into frm).1 : Nat)) ∧ Left DB w B h F (mergeS s into frm).2 w'
  put : ∀ (B h : Nat) (F : Nat → Prop) (s : Stk) (y : Lv) (w : World), DB w B h F s → Good s → St w y → y.n ≤ 100000 → (∀ k, Bk y k → ¬ F k) →
    Calls Try.prog 6 #[.pointer (some ⟨h, 0, none⟩), lval y] w fun e w' =>
      e = .returned (.int .i64 ((putS s y.x).1 : Nat)) ∧ Left DB w B h F (putS s y.x).2 w'
  give : ∀ (B h : Nat) (F : Nat → Prop) (s : Stk) (id : Int) (w : World), DB w B h F s → Good s → I64 id →
    Calls Try.prog 13 #[.pointer (some ⟨h, 0, none⟩), .int .i64 id] w fun e w' =>
      e = .returned (.int .i64 ((giveS s id).1 : Nat)) ∧ Left DB w B h F (giveS s id).2 w'
  given : ∀ (B h : Nat) (F : Nat → Prop) (s : Stk) (w : World), DB w B h F s → Calls Try.prog 8 #[.pointer (some ⟨h, 0, none⟩)] w fun e w' => e = .returned (.int .i64 s.2) ∧ Below w.heap.size w w'
  load : ∀ (B h : Nat) (F : Nat → Prop) (s : Stk) (zone : Int) (w : World), DB w B h F s → Good s → I64 zone → Calls Try.prog 11 #[.pointer (some ⟨h, 0, none⟩), .int .i64 zone] w fun e w' => e = .returned (.int .i64 (loadL s.1 zone)) ∧ Below w.heap.size w w'
  lot : ∀ (B h : Nat) (F : Nat → Prop) (s : Stk) (id : Int) (w : World), DB w B h F s → Good s → I64 id → Calls Try.prog 22 #[.pointer (some ⟨h, 0, none⟩), .int .i64 id] w (LotEnd (lotS s id).1 (lotS s id).2 w)
  lots : ∀ (B h : Nat) (F : Nat → Prop) (s : Stk) (w : World), DB w B h F s → Good s → Calls Try.prog 10 #[.pointer (some ⟨h, 0, none⟩)] w (LotsEnd s.1 w)
  nil_recv : ∀ (m : Value) (product zone units expiry now : Int) (w : World), Calls Try.prog 18 #[.pointer none, m, .int .i64 product, .int .i64 zone, .int .i64 units, .int .i64 expiry, .int .i64 now] w fun e w' => e = .returned (.tuple #[.int .i64 0, .int .i64 1]) ∧ Below w.heap.size w w'
  nil_move : ∀ (m : Value) (id zone now : Int) (w : World), Calls Try.prog 20 #[.pointer none, m, .int .i64 id, .int .i64 zone, .int .i64 now] w fun e w' => e = .returned (.int .i64 1) ∧ Below w.heap.size w w'
  nil_split : ∀ (id units : Int) (w : World), Calls Try.prog 19 #[.pointer none, .int .i64 id, .int .i64 units] w fun e w' => e = .returned (.tuple #[.int .i64 0, .int .i64 1]) ∧ Below w.heap.size w w'
  nil_merge : ∀ (into frm : Int) (w : World), Calls Try.prog 21 #[.pointer none, .int .i64 into, .int .i64 frm] w fun e w' => e = .returned (.int .i64 1) ∧ Below w.heap.size w w'
  nil_put : ∀ (y : Lv) (w : World), Calls Try.prog 6 #[.pointer none, lval y] w fun e w' => e = .returned (.int .i64 1) ∧ Below w.heap.size w w'
  nil_give : ∀ (id : Int) (w : World), Calls Try.prog 13 #[.pointer none, .int .i64 id] w fun e w' => e = .returned (.int .i64 1) ∧ Below w.heap.size w w'
  nil_given : ∀ (w : World), Calls Try.prog 8 #[.pointer none] w fun e w' => e = .returned (.int .i64 0) ∧ Below w.heap.size w w'
  nil_load : ∀ (zone : Int) (w : World), Calls Try.prog 11 #[.pointer none, .int .i64 zone] w fun e w' => e = .returned (.int .i64 0) ∧ Below w.heap.size w w'
  nil_lot : ∀ (id : Int) (w : World), Calls Try.prog 22 #[.pointer none, .int .i64 id] w (LotEnd lt0 1 w)
  nil_lots : ∀ (w : World), Calls Try.prog 10 #[.pointer none] w fun e w' => (∃ v : Value, e = .returned v ∧ ∃ q c, v = .slice q 0 c) ∧ Below w.heap.size w w'
theorem Face.keep {M : Ms.Face} (I : Face M) {w w' : World} {B h : Nat} {F : Nat → Prop} {s : Stk} (hp : I.DB w B h F s) (hb : Below w.heap.size w w') : I.DB w' B h F s :=
  I.turn hp (T := fun _ => False) (Turn.of_below hb) (fun _ _ hf => hf)
theorem Face.next_below {M : Ms.Face} (I : Face M) {w wi w' : World} {B h : Nat} {F : Nat → Prop} {s s' : Stk} (hp : I.DB wi B h F s) (hb : Below B w wi) (hB : B ≤ wi.heap.size) (h' : Left I.DB wi B h F s' w') :
    ∃ F', I.DB w' B h F' s' ∧ Below B w w' := by
  obtain ⟨F', h1, ht, _⟩ := h'
  exact ⟨F', h1, ht.below hb hB (fun i hi => (I.foot hp hi).1)⟩
end Lo
end Go.Proofs.Ytkfmkchonlajpaa

namespace Go.Proofs.Ytkfmkchonlajpaa
open Go.RowKit

namespace Lo
theorem i64_of {x : Int} (h : -1000000 ≤ x ∧ x ≤ 1000000) : I64 x := ⟨by omega, by omega⟩
/-- A stock at block h and a master at block hm, apart; nothing older than base was written into. -/
structure Pair {M : Ms.Face} (I : Face M) (base bs bm : Nat) (w W : World) (h hm : Nat) (F Fm : Nat → Prop) (s : Stk) (m : Nat) (Z : List Ms.Zn) (P : List Ms.Pd) : Prop where
  st : I.DB W bs h F s
  ms : M.DB W bm hm Fm Z P
  apart : ∀ k, F k → ¬ Fm k
  good : GoodM s m
  gz : Ms.GoodZ Z
  gp : Ms.GoodP P
  lz : Z.length ≤ 1000
  lp : P.length ≤ 1000
  below : Below base w W
  size : base ≤ W.heap.size
  low : base ≤ bs
section
variable {M : Ms.Face} {I : Face M} {base bs bm : Nat} {w W : World} {h hm : Nat} {F Fm : Nat → Prop} {s : Stk} {m : Nat} {Z : List Ms.Zn} {P : List Ms.Pd}
theorem Pair.keep (p : Pair I base bs bm w W h hm F Fm s m Z P) {w' : World} (hb : Below W.heap.size W w') : Pair I base bs bm w w' h hm F Fm s m Z P :=
  ⟨I.keep p.st hb, M.keep p.ms hb, p.apart, p.good, p.gz, p.gp, p.lz, p.lp, p.below.trans (hb.mono p.size), Nat.le_trans p.size hb.size, p.low⟩
theorem Pair.step (p : Pair I base bs bm w W h hm F Fm s m Z P) {w' : World} {s' : Stk} {m' : Nat} (hl : Left I.DB W bs h F s' w') (hg : GoodM s' m') : ∃ F', Pair I base bs bm w w' h hm F' Fm s' m' Z P := by
  obtain ⟨F', hd, ht, hf⟩ := hl
  refine ⟨F', hd, M.turn p.ms ht (fun k hk hF => p.apart k hF hk), fun k hk hm => ?_, hg, p.gz, p.gp, p.lz, p.lp, ht.below p.below p.size (fun i hi => Nat.le_trans p.low (I.foot p.st hi).1), Nat.le_trans p.size ht.size, p.low⟩
  rcases hf k hk with hk | hk
  · exact p.apart k hk hm
  · have := (M.foot p.ms hm).2
    omega
/-- A master that stands, and a new stock. -/
theorem pair_new {w5 w6 : World} (hm' : M.DB w5 bm hm Fm Z P) (hb : Below base w w5) (hB : base ≤ w5.heap.size) (hs : I.DB w6 w5.heap.size h F ([], 0)) (h6 : Below w5.heap.size w5 w6) (gz : Ms.GoodZ Z) (gp : Ms.GoodP P) (lz : Z.length ≤ 1000) (lp : P.length ≤ 1000) :
    Pair I base w5.heap.size bm w w6 h hm F Fm ([], 0) 0 Z P :=
  ⟨hs, M.keep hm' h6, fun k hk hf => by have h1 := (I.foot hs hk).1; have h2 := (M.foot hm' hf).2; omega, goodM_nil, gz, gp, lz, lp, hb.trans (h6.mono hB), Nat.le_trans hB h6.size, hB⟩
theorem Pair.recv (p : Pair I base bs bm w W h hm F Fm s m Z P) (hm1 : m < 100000) {product zone units expiry now : Int} {r : Say × Stk} (e : recvS Z P s product zone units expiry now = r) (h1 : I64 product) (h2 : I64 zone) (h3 : I64 units) (h4 : I64 expiry) (h5 : I64 now) (i j : Int) (hi : i = r.1.1) (hj : j = r.1.2) :
    Calls Try.prog 18 #[.pointer (some ⟨h, 0, none⟩), .pointer (some ⟨hm, 0, none⟩), .int .i64 product, .int .i64 zone, .int .i64 units, .int .i64 expiry, .int .i64 now] W fun e w' =>
      e = .returned (.tuple #[.int .i64 i, .int .i64 j]) ∧ ∃ F', Pair I base bs bm w w' h hm F' Fm r.2 (m + 1) Z P := by
  refine (I.recv bs h bm hm F Fm s Z P product zone units expiry now W p.st p.ms p.apart p.good.1 p.gz p.gp p.lz p.lp h1 h2 h3 h4 h5).mono fun e2 w' ⟨he, hl⟩ => ?_
  have hg := good_recv (Z := Z) (P := P) product zone units expiry now p.good hm1
  rw [e] at he hl hg
  rw [hi, hj]
  exact ⟨he, p.step hl hg⟩
theorem Pair.move (p : Pair I base bs bm w W h hm F Fm s m Z P) (hm1 : m < 100000) {id zone now : Int} {r : Nat × Stk} (e : moveS Z s id zone now = r) (h1 : I64 id) (h2 : I64 zone) (h3 : I64 now) (i : Int) (hi : i = r.1) :
    Calls Try.prog 20 #[.pointer (some ⟨h, 0, none⟩), .pointer (some ⟨hm, 0, none⟩), .int .i64 id, .int .i64 zone, .int .i64 now] W fun e w' =>
      e = .returned (.int .i64 i) ∧ ∃ F', Pair I base bs bm w w' h hm F' Fm r.2 (m + 1) Z P := by
  refine (I.move bs h bm hm F Fm s Z P id zone now W p.st p.ms p.apart p.good.1 p.gz p.gp p.lz p.lp h1 h2 h3).mono fun e2 w' ⟨he, hl⟩ => ?_
  have hg := good_move (Z := Z) id zone now p.good hm1
  rw [e] at he hl hg
  rw [hi]
  exact ⟨he, p.step hl hg⟩
theorem Pair.split (p : Pair I base bs bm w W h hm F Fm s m Z P) (hm1 : m + 1 < 100000) {id units : Int} {r : Say × Stk} (e : splitS s id units = r) (h1 : I64 id) (h2 : I64 units) (i j : Int) (hi : i = r.1.1) (hj : j = r.1.2) :
    Calls Try.prog 19 #[.pointer (some ⟨h, 0, none⟩), .int .i64 id, .int .i64 units] W fun e w' => e = .returned (.tuple #[.int .i64 i, .int .i64 j]) ∧ ∃ F', Pair I base bs bm w w' h hm F' Fm r.2 (m + 2) Z P := by
  refine (I.split bs h F s id units W p.st p.good.1 h1 h2).mono fun e2 w' ⟨he, hl⟩ => ?_
  have hg := good_split id units p.good hm1
  rw [e] at he hl hg
  rw [hi, hj]
  exact ⟨he, p.step hl hg⟩
theorem Pair.merge (p : Pair I base bs bm w W h hm F Fm s m Z P) {into frm : Int} {r : Nat × Stk} (e : mergeS s into frm = r) (h1 : I64 into) (h2 : I64 frm) (i : Int) (hi : i = r.1) :
    Calls Try.prog 21 #[.pointer (some ⟨h, 0, none⟩), .int .i64 into, .int .i64 frm] W fun e w' => e = .returned (.int .i64 i) ∧ ∃ F', Pair I base bs bm w w' h hm F' Fm r.2 (m + 1) Z P := by
  refine (I.merge bs h F s into frm W p.st p.good.1 h1 h2).mono fun e2 w' ⟨he, hl⟩ => ?_
  have hg := good_merge into frm p.good
  rw [e] at he hl hg
  rw [hi]
  exact ⟨he, p.step hl hg⟩
theorem Pair.load (p : Pair I base bs bm w W h hm F Fm s m Z P) {zone : Int} {r : Int} (e : loadL s.1 zone = r) (h1 : I64 zone) :
    Calls Try.prog 11 #[.pointer (some ⟨h, 0, none⟩), .int .i64 zone] W fun e w' => e = .returned (.int .i64 r) ∧ Below W.heap.size W w' := by
  rw [← e]
  exact I.load bs h F s zone W p.st p.good.1 h1
theorem Pair.given (p : Pair I base bs bm w W h hm F Fm s m Z P) : Calls Try.prog 8 #[.pointer (some ⟨h, 0, none⟩)] W fun e w' => e = .returned (.int .i64 s.2) ∧ Below W.heap.size W w' := I.given bs h F s W p.st
theorem Pair.lot (p : Pair I base bs bm w W h hm F Fm s m Z P) {id : Int} {x : Lt} {c : Nat} (e : lotS s id = (x, c)) (h1 : I64 id) :
    Calls Try.prog 22 #[.pointer (some ⟨h, 0, none⟩), .int .i64 id] W (LotEnd x c W) := by
  have := I.lot bs h F s id W p.st p.good.1 h1
  rw [e] at this
  exact this
theorem lots_end {l : List Lt} {w w' : World} {e : Ending} (h : LotsEnd l w e w') : ∃ q c L, lts L = l ∧ e = .returned (.slice q l.length c) ∧ l.length ≤ c ∧ w'.ownsRow w.heap.size 32 8 (.slice q l.length c) L.length (L.flatMap lcells) ∧ Rw 8 lcells w' q L.length L ∧ (∀ y ∈ L, St w' y ∧ ∀ k, Bk y k → w.heap.size ≤ k) ∧ Below w.heap.size w w' := by
  obtain ⟨v, L, hl, rfl, ho, hs, hb⟩ := h
  obtain ⟨q, c, rfl, hc, hr⟩ := rw_own lcells_len ho
  have hn : L.length = l.length := by rw [← hl, lts, List.length_map]
  rw [hn] at hc hr
  exact ⟨q, c, L, hl, by rw [hn], hc, by rw [← hn]; exact ho, by rw [hn]; exact hr, hs, hb⟩
theorem Pair.lots (p : Pair I base bs bm w W h hm F Fm s m Z P) : Calls Try.prog 10 #[.pointer (some ⟨h, 0, none⟩)] W (LotsEnd s.1 W) := I.lots bs h F s W p.st p.good.1
end
end Lo
end Go.Proofs.Ytkfmkchonlajpaa

namespace Go.Proofs.Ytkfmkchonlajpaa
open Go.RowKit

namespace Sy
theorem sy_ext {a b : Sy} (h : a.zone = b.zone ∧ a.frm = b.frm ∧ a.to = b.to) : a = b := by
  obtain ⟨a1, a2, a3⟩ := a
  obtain ⟨b1, b2, b3⟩ := b
  obtain ⟨rfl, rfl, rfl⟩ := h
  rfl
theorem r9takes {l l2 : List Sy} {k : Nat} {x : Sy} (h : l.take k = l2.take k) (hx : l[k]? = some x) (hy : l2[k]? = some x) : l.take (k + 1) = l2.take (k + 1) := by
  rw [List.take_add_one, List.take_add_one, h, hx, hy]
theorem r9nots {l l2 : List Sy} {k : Nat} {x y : Sy} (hx : l[k]? = some x) (hy : l2[k]? = some y) (h : x ≠ y) : decide (l = l2) = false := by
  rw [decide_eq_false_iff_not]
  rintro rfl
  rw [hx] at hy
  exact h (Option.some.inj hy)
theorem r9same_other (p q : Option Addr) (n m c d : Nat) (w : World) (h : ¬ n = m) :
    Calls Try.prog 61 #[.slice p n c, .slice q m d] w fun e w' => e = .returned (.bool false) ∧ w = w' := by
  have h' : ¬ (n : Int) = (m : Int) := by omega
  have h1 : ((n : Int) != (m : Int)) = true := by simp; omega
  go_enter Try.func61, Try.ntmps61
  go_wp2
  go_ret
  exact ⟨rfl, rfl⟩
theorem r9same_nil (p q : Option Addr) (c d : Nat) (w : World) : Calls Try.prog 61 #[.slice p 0 c, .slice q 0 d] w fun e w' => e = .returned (.bool true) ∧ w = w' := by
  go_enter Try.func61, Try.ntmps61
  go_wp2
  go_loop [5] (fun i => i = .int .i64 0) (fun i => 0)
  case atStart => rfl
  case round =>
    obtain rfl := hrel
    go_wp2
    go_ret
    exact ⟨rfl, rfl⟩
set_option maxRecDepth 100000 in
set_option maxHeartbeats 8000000 in
theorem r9same_some (b o b2 o2 n c d : Nat) (l l2 : List Sy) (w : World) (hn : l.length = n) (hn2 : l2.length = n) (hbig : n ≤ 9223372036854775807)
    (hc : ∀ j x, l[j]? = some x → ∀ i, i < 3 → w.cell? ⟨b, o + j * 3 + i, none⟩ = (scells x)[i]?) (hc2 : ∀ j x, l2[j]? = some x → ∀ i, i < 3 → w.cell? ⟨b2, o2 + j * 3 + i, none⟩ = (scells x)[i]?) :
    Calls Try.prog 61 #[.slice (some ⟨b, o, none⟩) n c, .slice (some ⟨b2, o2, none⟩) n d] w fun e w' => e = .returned (.bool (decide (l = l2))) ∧ ∃ m, w' = w.drewN m := by
  have HC := Lib.hid hc
  have HC2 := Lib.hid hc2
  have HN := Lib.hid hn
  have HN2 := Lib.hid hn2
  clear hc hc2 hn hn2
  go_enter Try.func61, Try.ntmps61
  go_wp2
  go_loopw [5] (fun i wr => ∃ k m : Nat, k ≤ n ∧ i = .int .i64 k ∧ wr = w.drewN m ∧ Hid (l.take k = l2.take k)) (fun i _ => n - (RowKit.intOf i).toNat)
  case atStart => exact ⟨0, 0, Nat.zero_le _, rfl, rfl, Lib.hid (by simp)⟩
  case round =>
    obtain ⟨k, m, hk, rfl, rfl, HT⟩ := hrel
    by_cases hlt : k < n
    · obtain ⟨x, hx⟩ : ∃ x, l[k]? = some x := ⟨_, List.getElem?_eq_getElem (by rw [HN.out]; exact hlt)⟩
      obtain ⟨y, hy⟩ : ∃ y, l2[k]? = some y := ⟨_, List.getElem?_eq_getElem (by rw [HN2.out]; exact hlt)⟩
      have hk3 : (k : Int) < (n : Int) := by omega
      by_cases h : x = y
      · subst h
        have HT2 := Lib.hid (r9takes HT.out hx hy)
        have P1 := Lib.hid (HC.out k x hx)
        have P2 := Lib.hid (HC2.out k x hy)
        clear hx hy
        obtain ⟨ka, kb, kc⟩ := x
        have e0 : w.cell? ⟨b, o + k * 3, none⟩ = some (.int .i64 ka) := P1.out 0 (by decide)
        have e1 : w.cell? ⟨b, o + k * 3 + 1, none⟩ = some (.int .i64 kb) := P1.out 1 (by decide)
        have e2 : w.cell? ⟨b, o + k * 3 + 2, none⟩ = some (.int .i64 kc) := P1.out 2 (by decide)
        have f0 : w.cell? ⟨b2, o2 + k * 3, none⟩ = some (.int .i64 ka) := P2.out 0 (by decide)
        have f1 : w.cell? ⟨b2, o2 + k * 3 + 1, none⟩ = some (.int .i64 kb) := P2.out 1 (by decide)
        have f2 : w.cell? ⟨b2, o2 + k * 3 + 2, none⟩ = some (.int .i64 kc) := P2.out 2 (by decide)
        clear HC HC2
        go_wp2_with fail
        go_quiet (fail)
        go_wp2
        go_roundw
        case rel => exact ⟨k + 1, _, by omega, by go_num, rfl, HT2⟩
        case measure => simp [RowKit.intOf]; omega
      · have HE := Lib.hid (r9nots hx hy h)
        have P1 := Lib.hid (HC.out k x hx)
        have P2 := Lib.hid (HC2.out k y hy)
        clear hx hy HC HC2
        obtain ⟨ka, kb, kc⟩ := x
        obtain ⟨ka2, kb2, kc2⟩ := y
        have hor : (ka ≠ ka2) ∨ (ka = ka2 ∧ kb ≠ kb2) ∨ (ka = ka2 ∧ kb = kb2 ∧ kc ≠ kc2) := by
          by_cases h0 : ka = ka2
          case neg => exact .inl h0
          by_cases h1 : kb = kb2
          case neg => exact .inr (.inl ⟨h0, h1⟩)
          by_cases h2 : kc = kc2
          case neg => exact .inr (.inr (⟨h0, h1, h2⟩))
          exact absurd (sy_ext ⟨h0, h1, h2⟩) h
        clear h
        rcases hor with h1 | ⟨rfl, h1⟩ | ⟨rfl, rfl, h1⟩
        · have t1 : (ka == ka2) = false := by simp [h1]
          clear h1
          have e0 : w.cell? ⟨b, o + k * 3, none⟩ = some (.int .i64 ka) := P1.out 0 (by decide)
          have e1 : w.cell? ⟨b, o + k * 3 + 1, none⟩ = some (.int .i64 kb) := P1.out 1 (by decide)
          have e2 : w.cell? ⟨b, o + k * 3 + 2, none⟩ = some (.int .i64 kc) := P1.out 2 (by decide)
          have f0 : w.cell? ⟨b2, o2 + k * 3, none⟩ = some (.int .i64 ka2) := P2.out 0 (by decide)
          have f1 : w.cell? ⟨b2, o2 + k * 3 + 1, none⟩ = some (.int .i64 kb2) := P2.out 1 (by decide)
          have f2 : w.cell? ⟨b2, o2 + k * 3 + 2, none⟩ = some (.int .i64 kc2) := P2.out 2 (by decide)
          go_wp2_with fail
          go_quiet (fail)
          go_wp2
          go_ret
          exact ⟨by rw [HE.out]; rfl, _, World.drewN_drewN _ _ _⟩
        · have t1 : (kb == kb2) = false := by simp [h1]
          clear h1
          have e0 : w.cell? ⟨b, o + k * 3, none⟩ = some (.int .i64 ka) := P1.out 0 (by decide)
          have e1 : w.cell? ⟨b, o + k * 3 + 1, none⟩ = some (.int .i64 kb) := P1.out 1 (by decide)
          have e2 : w.cell? ⟨b, o + k * 3 + 2, none⟩ = some (.int .i64 kc) := P1.out 2 (by decide)
          have f0 : w.cell? ⟨b2, o2 + k * 3, none⟩ = some (.int .i64 ka) := P2.out 0 (by decide)
          have f1 : w.cell? ⟨b2, o2 + k * 3 + 1, none⟩ = some (.int .i64 kb2) := P2.out 1 (by decide)
          have f2 : w.cell? ⟨b2, o2 + k * 3 + 2, none⟩ = some (.int .i64 kc2) := P2.out 2 (by decide)
          go_wp2_with fail
          go_quiet (fail)
          go_wp2
          go_ret
          exact ⟨by rw [HE.out]; rfl, _, World.drewN_drewN _ _ _⟩
        · have t1 : (kc == kc2) = false := by simp [h1]
          clear h1
          have e0 : w.cell? ⟨b, o + k * 3, none⟩ = some (.int .i64 ka) := P1.out 0 (by decide)
          have e1 : w.cell? ⟨b, o + k * 3 + 1, none⟩ = some (.int .i64 kb) := P1.out 1 (by decide)
          have e2 : w.cell? ⟨b, o + k * 3 + 2, none⟩ = some (.int .i64 kc) := P1.out 2 (by decide)
          have f0 : w.cell? ⟨b2, o2 + k * 3, none⟩ = some (.int .i64 ka) := P2.out 0 (by decide)
          have f1 : w.cell? ⟨b2, o2 + k * 3 + 1, none⟩ = some (.int .i64 kb) := P2.out 1 (by decide)
          have f2 : w.cell? ⟨b2, o2 + k * 3 + 2, none⟩ = some (.int .i64 kc2) := P2.out 2 (by decide)
          go_wp2_with fail
          go_quiet (fail)
          go_wp2
          go_ret
          exact ⟨by rw [HE.out]; rfl, _, World.drewN_drewN _ _ _⟩
    · obtain rfl : k = n := by omega
      have HE := Lib.hid (show decide (l = l2) = true by
        rw [decide_eq_true_eq]
        have := HT.out
        rwa [List.take_of_length_le (by rw [HN.out]; exact Nat.le_refl _), List.take_of_length_le (by rw [HN2.out]; exact Nat.le_refl _)] at this)
      go_wp2
      go_ret
      exact ⟨by rw [HE.out]; rfl, _, rfl⟩
theorem r9same_any (p q : Option Addr) (n m c d : Nat) (l l2 : List Sy) (w : World) (hn : n ≤ 9223372036854775807) (h : Rw 3 scells w p n l) (h2 : Rw 3 scells w q m l2) :
    Calls Try.prog 61 #[.slice p n c, .slice q m d] w fun e w' => e = .returned (.bool (decide (l = l2))) ∧ ∃ m, w' = w.drewN m := by
  by_cases hm : n = m
  · subst hm
    by_cases h0 : 0 < n
    · obtain ⟨b, o, rfl, hc⟩ := h.2 h0
      obtain ⟨b2, o2, rfl, hc2⟩ := h2.2 h0
      exact r9same_some b o b2 o2 n c d l l2 w h.1 h2.1 hn hc hc2
    · obtain rfl : n = 0 := by omega
      have e1 := List.eq_nil_of_length_eq_zero h.1
      have e2 := List.eq_nil_of_length_eq_zero h2.1
      subst e1 e2
      exact (r9same_nil p q c d w).mono fun e w' ⟨he, hw⟩ => ⟨by rw [he]; rfl, 0, hw.symm⟩
  · have e : decide (l = l2) = false := by
      rw [decide_eq_false_iff_not]
      rintro rfl
      exact hm (h.1.symm.trans h2.1)
    rw [e]
    exact (r9same_other p q n m c d w hm).mono fun e w' ⟨he, hw⟩ => ⟨he, 0, hw.symm⟩
end Sy
end Go.Proofs.Ytkfmkchonlajpaa

namespace Go.Proofs.Ytkfmkchonlajpaa
open Go.RowKit

namespace Lo
set_option maxRecDepth 100000 in
set_option maxHeartbeats 4000000 in
theorem rin_any (y : Lv) (w : World) (h : St w y) (hn : y.n ≤ 1000000) : Calls Try.prog 31 #[lval y] w fun e w' => e = .returned (.int .i64 (inL y.x)) ∧ Below w.heap.size w w' := by
  have HI : Hid (inL y.x = match y.x.stays.getLast? with | some s => if s.to = -1 then s.zone else 0 | none => 0) := Lib.hid rfl
  have hl := h.len
  obtain ⟨⟨i1, i2, i3, i4, i5, i6, i7, S⟩, p, n, c⟩ := y
  have B1 := Lib.hid (alloc_below w (.cells #[.int .i64 i1, .int .i64 i2, .int .i64 i3, .int .i64 i4, .int .i64 i5, .int .i64 i6, .int .i64 i7, .slice p n c] 32))
  have X1 := Lib.hid (Lies.new w 32 #[.int .i64 i1, .int .i64 i2, .int .i64 i3, .int .i64 i4, .int .i64 i5, .int .i64 i6, .int .i64 i7, .slice p n c])
  have ST := Lib.hid h
  simp only at hn hl HI
  have hn' : (n : Int) ≤ 1000000 := by omega
  obtain ⟨w1, hw1⟩ : ∃ w1, w.alloc (.cells #[.int .i64 i1, .int .i64 i2, .int .i64 i3, .int .i64 i4, .int .i64 i5, .int .i64 i6, .int .i64 i7, .slice p n c] 32) = w1 := ⟨_, rfl⟩
  rw [hw1] at B1 X1
  have x7 : w1.cell? ⟨w.heap.size, 7, none⟩ = some (.slice p n c) := X1.out.cell 7
  clear h X1
  by_cases hz : n = 0
  · subst hz
    have hS := List.eq_nil_of_length_eq_zero hl
    subst hS
    have HE : Hid (inL ⟨i1, i2, i3, i4, i5, i6, i7, []⟩ = 0) := Lib.hid rfl
    clear ST HI hl
    unfold lval
    go_enter Try.func31, Try.ntmps31
    go_wp2
    go_ret
    exact ⟨by rw [HE.out]; rfl, B1.out⟩
  obtain ⟨m, rfl⟩ : ∃ m, n = m + 1 := ⟨n - 1, by omega⟩
  obtain ⟨s, b, o, hlast, e, hc⟩ := st_last ST.out (m := m) rfl
  simp only at hlast e
  subst e
  have s0 : w1.cell? ⟨b, o + m * 3, none⟩ = some (.int .i64 s.zone) := hc w1 B1.out 0 (by decide)
  have s2 : w1.cell? ⟨b, o + m * 3 + 2, none⟩ = some (.int .i64 s.to) := hc w1 B1.out 2 (by decide)
  have HE : Hid (inL ⟨i1, i2, i3, i4, i5, i6, i7, S⟩ = if s.to = -1 then s.zone else 0) := Lib.hid (by rw [HI.out, hlast])
  have hm0 : (0 : Int) < (m : Int) + 1 := by omega
  have hm1 : (m : Int) ≤ 1000000 := by omega
  clear ST HI hl hc hlast hz hn hn'
  unfold lval
  obtain ⟨sz, sf, st⟩ := s
  simp only at s0 s2 HE
  by_cases ht : st = -1
  · have h1 : (st == -1) = true := by simp [ht]
    have HE2 := Lib.hid (show inL ⟨i1, i2, i3, i4, i5, i6, i7, S⟩ = sz by rw [HE.out, if_pos ht])
    clear ht HE
    go_enter Try.func31, Try.ntmps31
    go_wp2
    go_ret
    exact ⟨by rw [HE2.out]; rfl, B1.out⟩
  · have h1 : (st == -1) = false := by simp [ht]
    have HE2 := Lib.hid (show inL ⟨i1, i2, i3, i4, i5, i6, i7, S⟩ = 0 by rw [HE.out, if_neg ht])
    clear ht HE
    go_enter Try.func31, Try.ntmps31
    go_wp2
    go_ret
    exact ⟨by rw [HE2.out]; rfl, B1.out⟩
set_option maxRecDepth 100000 in
set_option maxHeartbeats 8000000 in
theorem ralike_any (y z : Lv) (w : World) (h : St w y) (h2 : St w z) (hn : y.n ≤ 1000000) :
    Calls Try.prog 49 #[lval y, lval z] w fun e w' => e = .returned (.bool (alikeB y.x z.x)) ∧ Below w.heap.size w w' := by
  have RS := Lib.hid (fun W (hW : Below w.heap.size w W) => Sy.r9same_any y.p z.p y.n z.n y.c z.c y.x.stays z.x.stays W (by omega) (h.keep hW).1 (h2.keep hW).1)
  have HA : Hid (alikeB y.x z.x = (decide (y.x.stays = z.x.stays) && (decide (y.x.product = z.x.product) && (decide (y.x.expiry = z.x.expiry) && (decide (y.x.grant = z.x.grant) && (decide (y.x.order = z.x.order) && decide (y.x.status = z.x.status))))))) := Lib.hid rfl
  rw [HA.out]
  clear h h2 HA
  obtain ⟨⟨i1, i2, i3, i4, i5, i6, i7, S⟩, p, n, c⟩ := y
  obtain ⟨⟨j1, j2, j3, j4, j5, j6, j7, S2⟩, q, m, d⟩ := z
  unfold lval
  simp only at RS hn ⊢
  generalize decide (S = S2) = t0 at *
  have k1 : Hid (decide (i2 = j2) = (i2 == j2)) := Lib.hid (by rw [Bool.eq_iff_iff]; simp)
  have k3 : Hid (decide (i4 = j4) = (i4 == j4)) := Lib.hid (by rw [Bool.eq_iff_iff]; simp)
  have k4 : Hid (decide (i5 = j5) = (i5 == j5)) := Lib.hid (by rw [Bool.eq_iff_iff]; simp)
  have k5 : Hid (decide (i6 = j6) = (i6 == j6)) := Lib.hid (by rw [Bool.eq_iff_iff]; simp)
  have k6 : Hid (decide (i7 = j7) = (i7 == j7)) := Lib.hid (by rw [Bool.eq_iff_iff]; simp)
  rw [k1.out, k3.out, k4.out, k5.out, k6.out]
  obtain ⟨t1, ht1⟩ : ∃ t, (i2 == j2) = t := ⟨_, rfl⟩
  obtain ⟨t3, ht3⟩ : ∃ t, (i4 == j4) = t := ⟨_, rfl⟩
  obtain ⟨t4, ht4⟩ : ∃ t, (i5 == j5) = t := ⟨_, rfl⟩
  obtain ⟨t5, ht5⟩ : ∃ t, (i6 == j6) = t := ⟨_, rfl⟩
  obtain ⟨t6, ht6⟩ : ∃ t, (i7 == j7) = t := ⟨_, rfl⟩
  rw [ht1, ht3, ht4, ht5, ht6]
  clear k1 k3 k4 k5 k6
  have B1 := Lib.hid (alloc_below w (.cells #[.int .i64 i1, .int .i64 i2, .int .i64 i3, .int .i64 i4, .int .i64 i5, .int .i64 i6, .int .i64 i7, .slice p n c] 32))
  have X1 := Lib.hid (Lies.new w 32 #[.int .i64 i1, .int .i64 i2, .int .i64 i3, .int .i64 i4, .int .i64 i5, .int .i64 i6, .int .i64 i7, .slice p n c])
  obtain ⟨w1, hw1⟩ : ∃ w1, w.alloc (.cells #[.int .i64 i1, .int .i64 i2, .int .i64 i3, .int .i64 i4, .int .i64 i5, .int .i64 i6, .int .i64 i7, .slice p n c] 32) = w1 := ⟨_, rfl⟩
  rw [hw1] at B1 X1
  have B2 := Lib.hid (B1.out.alloc B1.out.size (.cells #[.int .i64 j1, .int .i64 j2, .int .i64 j3, .int .i64 j4, .int .i64 j5, .int .i64 j6, .int .i64 j7, .slice q m d] 32))
  have X2 := Lib.hid (X1.out.alloc (.cells #[.int .i64 j1, .int .i64 j2, .int .i64 j3, .int .i64 j4, .int .i64 j5, .int .i64 j6, .int .i64 j7, .slice q m d] 32))
  have Y2 := Lib.hid (Lies.new w1 32 #[.int .i64 j1, .int .i64 j2, .int .i64 j3, .int .i64 j4, .int .i64 j5, .int .i64 j6, .int .i64 j7, .slice q m d])
  obtain ⟨w2, hw2⟩ : ∃ w2, w1.alloc (.cells #[.int .i64 j1, .int .i64 j2, .int .i64 j3, .int .i64 j4, .int .i64 j5, .int .i64 j6, .int .i64 j7, .slice q m d] 32) = w2 := ⟨_, rfl⟩
  rw [hw2] at B2 X2 Y2
  have x7 : w2.cell? ⟨w.heap.size, 7, none⟩ = some (.slice p n c) := X2.out.cell 7
  have y7 : w2.cell? ⟨w1.heap.size, 7, none⟩ = some (.slice q m d) := Y2.out.cell 7
  go_enter Try.func49, Try.ntmps49
  go_wp2_with fail
  clear x7 y7 hw1 hw2
  refine (RS.out _ B2.out).mono ?_
  rintro e w3 ⟨rfl, u, rfl⟩
  have B3 := Lib.hid (below_drewN B2.out u)
  have X3 := Lib.hid (X2.out.drewN u)
  have Y3 := Lib.hid (Y2.out.drewN u)
  obtain ⟨w3, hw3⟩ : ∃ w3, w2.drewN u = w3 := ⟨_, rfl⟩
  rw [hw3] at B3 X3 Y3 ⊢
  generalize w1.heap.size = bl at *
  clear hw3 RS B1 X1 B2 X2 Y2
  have x1 : w3.cell? ⟨w.heap.size, 1, none⟩ = some (.int .i64 i2) := X3.out.cell 1
  have x3 : w3.cell? ⟨w.heap.size, 3, none⟩ = some (.int .i64 i4) := X3.out.cell 3
  have x4 : w3.cell? ⟨w.heap.size, 4, none⟩ = some (.int .i64 i5) := X3.out.cell 4
  have x5 : w3.cell? ⟨w.heap.size, 5, none⟩ = some (.int .i64 i6) := X3.out.cell 5
  have x6 : w3.cell? ⟨w.heap.size, 6, none⟩ = some (.int .i64 i7) := X3.out.cell 6
  have y1 : w3.cell? ⟨bl, 1, none⟩ = some (.int .i64 j2) := Y3.out.cell 1
  have y3 : w3.cell? ⟨bl, 3, none⟩ = some (.int .i64 j4) := Y3.out.cell 3
  have y4 : w3.cell? ⟨bl, 4, none⟩ = some (.int .i64 j5) := Y3.out.cell 4
  have y5 : w3.cell? ⟨bl, 5, none⟩ = some (.int .i64 j6) := Y3.out.cell 5
  have y6 : w3.cell? ⟨bl, 6, none⟩ = some (.int .i64 j7) := Y3.out.cell 6
  clear X3 Y3
  cases t0
  · go_wp2
    go_ret
    exact ⟨rfl, B3.out⟩
  cases t1
  · go_wp2
    go_ret
    exact ⟨rfl, B3.out⟩
  cases t3
  · go_wp2
    go_ret
    exact ⟨rfl, B3.out⟩
  cases t4
  · go_wp2
    go_ret
    exact ⟨rfl, B3.out⟩
  cases t5
  · go_wp2
    go_ret
    exact ⟨rfl, B3.out⟩
  cases t6
  all_goals
    go_wp2
    go_ret
    exact ⟨rfl, B3.out⟩
end Lo
end Go.Proofs.Ytkfmkchonlajpaa

namespace Go.Proofs.Ytkfmkchonlajpaa
open Go.RowKit

namespace Lo
theorem lt_ext {a b : Lt} : decide (a = b) = (alikeB a b && (decide (a.id = b.id) && decide (a.units = b.units))) := by
  obtain ⟨a1, a2, a3, a4, a5, a6, a7, a8⟩ := a
  obtain ⟨b1, b2, b3, b4, b5, b6, b7, b8⟩ := b
  rw [Bool.eq_iff_iff]
  simp only [alikeB, Bool.and_eq_true, decide_eq_true_eq, Lt.mk.injEq]
  constructor
  · rintro ⟨h1, h2, h3, h4, h5, h6, h7, h8⟩
    exact ⟨⟨h8, h2, h4, h5, h6, h7⟩, h1, h3⟩
  · rintro ⟨⟨h8, h2, h4, h5, h6, h7⟩, h1, h3⟩
    exact ⟨h1, h2, h3, h4, h5, h6, h7, h8⟩
set_option maxRecDepth 100000 in
set_option maxHeartbeats 8000000 in
theorem rone_any (y z : Lv) (w : World) (h : St w y) (h2 : St w z) (hn : y.n ≤ 1000000) :
    Calls Try.prog 27 #[lval y, lval z] w fun e w' => e = .returned (.bool (decide (y.x = z.x))) ∧ Below w.heap.size w w' := by
  have AL := Lib.hid (fun W (hW : Below w.heap.size w W) => ralike_any y z W (h.keep hW) (h2.keep hW) hn)
  rw [lt_ext]
  clear h h2
  generalize alikeB y.x z.x = t0 at *
  obtain ⟨⟨i1, i2, i3, i4, i5, i6, i7, S⟩, p, n, c⟩ := y
  obtain ⟨⟨j1, j2, j3, j4, j5, j6, j7, S2⟩, q, m, d⟩ := z
  unfold lval at *
  simp only at AL ⊢
  have k1 : Hid (decide (i1 = j1) = (i1 == j1)) := Lib.hid (by rw [Bool.eq_iff_iff]; simp)
  have k3 : Hid (decide (i3 = j3) = (i3 == j3)) := Lib.hid (by rw [Bool.eq_iff_iff]; simp)
  rw [k1.out, k3.out]
  obtain ⟨t1, ht1⟩ : ∃ t, (i1 == j1) = t := ⟨_, rfl⟩
  obtain ⟨t3, ht3⟩ : ∃ t, (i3 == j3) = t := ⟨_, rfl⟩
  rw [ht1, ht3]
  clear k1 k3
  have B1 := Lib.hid (alloc_below w (.cells #[.int .i64 i1, .int .i64 i2, .int .i64 i3, .int .i64 i4, .int .i64 i5, .int .i64 i6, .int .i64 i7, .slice p n c] 32))
  have X1 := Lib.hid (Lies.new w 32 #[.int .i64 i1, .int .i64 i2, .int .i64 i3, .int .i64 i4, .int .i64 i5, .int .i64 i6, .int .i64 i7, .slice p n c])
  obtain ⟨w1, hw1⟩ : ∃ w1, w.alloc (.cells #[.int .i64 i1, .int .i64 i2, .int .i64 i3, .int .i64 i4, .int .i64 i5, .int .i64 i6, .int .i64 i7, .slice p n c] 32) = w1 := ⟨_, rfl⟩
  rw [hw1] at B1 X1
  have B2 := Lib.hid (B1.out.alloc B1.out.size (.cells #[.int .i64 j1, .int .i64 j2, .int .i64 j3, .int .i64 j4, .int .i64 j5, .int .i64 j6, .int .i64 j7, .slice q m d] 32))
  have X2 := Lib.hid (X1.out.alloc (.cells #[.int .i64 j1, .int .i64 j2, .int .i64 j3, .int .i64 j4, .int .i64 j5, .int .i64 j6, .int .i64 j7, .slice q m d] 32))
  have Y2 := Lib.hid (Lies.new w1 32 #[.int .i64 j1, .int .i64 j2, .int .i64 j3, .int .i64 j4, .int .i64 j5, .int .i64 j6, .int .i64 j7, .slice q m d])
  obtain ⟨w2, hw2⟩ : ∃ w2, w1.alloc (.cells #[.int .i64 j1, .int .i64 j2, .int .i64 j3, .int .i64 j4, .int .i64 j5, .int .i64 j6, .int .i64 j7, .slice q m d] 32) = w2 := ⟨_, rfl⟩
  rw [hw2] at B2 X2 Y2
  have x0 : w2.cell? ⟨w.heap.size, 0, none⟩ = some (.int .i64 i1) := X2.out.cell 0
  have x1 : w2.cell? ⟨w.heap.size, 1, none⟩ = some (.int .i64 i2) := X2.out.cell 1
  have x2 : w2.cell? ⟨w.heap.size, 2, none⟩ = some (.int .i64 i3) := X2.out.cell 2
  have x3 : w2.cell? ⟨w.heap.size, 3, none⟩ = some (.int .i64 i4) := X2.out.cell 3
  have x4 : w2.cell? ⟨w.heap.size, 4, none⟩ = some (.int .i64 i5) := X2.out.cell 4
  have x5 : w2.cell? ⟨w.heap.size, 5, none⟩ = some (.int .i64 i6) := X2.out.cell 5
  have x6 : w2.cell? ⟨w.heap.size, 6, none⟩ = some (.int .i64 i7) := X2.out.cell 6
  have x7 : w2.cell? ⟨w.heap.size, 7, none⟩ = some (.slice p n c) := X2.out.cell 7
  have y0 : w2.cell? ⟨w1.heap.size, 0, none⟩ = some (.int .i64 j1) := Y2.out.cell 0
  have y1 : w2.cell? ⟨w1.heap.size, 1, none⟩ = some (.int .i64 j2) := Y2.out.cell 1
  have y2 : w2.cell? ⟨w1.heap.size, 2, none⟩ = some (.int .i64 j3) := Y2.out.cell 2
  have y3 : w2.cell? ⟨w1.heap.size, 3, none⟩ = some (.int .i64 j4) := Y2.out.cell 3
  have y4 : w2.cell? ⟨w1.heap.size, 4, none⟩ = some (.int .i64 j5) := Y2.out.cell 4
  have y5 : w2.cell? ⟨w1.heap.size, 5, none⟩ = some (.int .i64 j6) := Y2.out.cell 5
  have y6 : w2.cell? ⟨w1.heap.size, 6, none⟩ = some (.int .i64 j7) := Y2.out.cell 6
  have y7 : w2.cell? ⟨w1.heap.size, 7, none⟩ = some (.slice q m d) := Y2.out.cell 7
  go_enter Try.func27, Try.ntmps27
  go_wp2_with fail
  clear x0 x1 x2 x3 x4 x5 x6 x7 y0 y1 y2 y3 y4 y5 y6 y7 hw1 hw2
  refine (AL.out _ B2.out).mono ?_
  rintro e w3 ⟨rfl, hb⟩
  have B3 := Lib.hid (B2.out.trans (hb.mono B2.out.size))
  have X3 := Lib.hid (X2.out.below hb X2.out.lt)
  have Y3 := Lib.hid (Y2.out.below hb Y2.out.lt)
  generalize w1.heap.size = bl at *
  clear AL B1 X1 B2 X2 Y2 hb
  have x0 : w3.cell? ⟨w.heap.size, 0, none⟩ = some (.int .i64 i1) := X3.out.cell 0
  have x2 : w3.cell? ⟨w.heap.size, 2, none⟩ = some (.int .i64 i3) := X3.out.cell 2
  have y0 : w3.cell? ⟨bl, 0, none⟩ = some (.int .i64 j1) := Y3.out.cell 0
  have y2 : w3.cell? ⟨bl, 2, none⟩ = some (.int .i64 j3) := Y3.out.cell 2
  clear X3 Y3
  cases t0
  · go_wp2
    go_ret
    exact ⟨rfl, B3.out⟩
  cases t1
  · go_wp2
    go_ret
    exact ⟨rfl, B3.out⟩
  cases t3
  all_goals
    go_wp2
    go_ret
    exact ⟨rfl, B3.out⟩
/-- A slice of lots that reads as a list. -/
def Ll (W : World) (p : Option Addr) (n : Nat) (l : List Lv) : Prop := Rw 8 lcells W p n l ∧ ∀ y ∈ l, St W y
theorem Ll.keep {w w' : World} {p : Option Addr} {n : Nat} {l : List Lv} (h : Ll w p n l) (hb : Below w.heap.size w w') : Ll w' p n l := ⟨h.1.keep lcells_len hb, fun y hy => (h.2 y hy).keep hb⟩
theorem rs_list {W : World} {B g : Nat} {v : Value} {given : Int} {l : List Lv} (h : RS W B g v given l) : ∃ q c, v = .slice q l.length c ∧ l.length ≤ c ∧ Ll W q l.length l := by
  obtain ⟨q, c, rfl, hc, hr⟩ := rw_own lcells_len h.row
  exact ⟨q, c, rfl, hc, hr, h.stays⟩
theorem ltakes {l l2 : List Lv} {k : Nat} {x y : Lv} (h : lts (l.take k) = lts (l2.take k)) (hx : l[k]? = some x) (hy : l2[k]? = some y) (e : x.x = y.x) : lts (l.take (k + 1)) = lts (l2.take (k + 1)) := by
  unfold lts at *
  rw [List.take_add_one, List.take_add_one, hx, hy, List.map_append, List.map_append, h]
  simp [e]
theorem lnots {l l2 : List Lv} {k : Nat} {x y : Lv} (hx : l[k]? = some x) (hy : l2[k]? = some y) (h : x.x ≠ y.x) : decide (lts l = lts l2) = false := by
  rw [decide_eq_false_iff_not]
  intro e
  apply h
  have h1 : (lts l)[k]? = some x.x := by unfold lts; rw [List.getElem?_map, hx]; rfl
  have h2 : (lts l2)[k]? = some y.x := by unfold lts; rw [List.getElem?_map, hy]; rfl
  rw [e, h2] at h1
  exact (Option.some.inj h1).symm
theorem rsame_other (p q : Option Addr) (n m c d : Nat) (w : World) (h : ¬ n = m) :
    Calls Try.prog 9 #[.slice p n c, .slice q m d] w fun e w' => e = .returned (.bool false) ∧ Below w.heap.size w w' := by
  have h' : ¬ (n : Int) = (m : Int) := by omega
  have h1 : ((n : Int) != (m : Int)) = true := by simp; omega
  go_enter Try.func9, Try.ntmps9
  go_wp2
  go_ret
  exact ⟨rfl, Below.refl _ _⟩
set_option maxRecDepth 100000 in
set_option maxHeartbeats 8000000 in
theorem rsame_one (p q : Option Addr) (n c d : Nat) (l l2 : List Lv) (w : World) (h : Ll w p n l) (h2 : Ll w q n l2) (hn : n ≤ 1000000) (hs : ∀ y ∈ l, y.n ≤ 1000000) :
    Calls Try.prog 9 #[.slice p n c, .slice q n d] w fun e w' => e = .returned (.bool (decide (lts l = lts l2))) ∧ Below w.heap.size w w' := by
  have H := Lib.hid h
  have H2 := Lib.hid h2
  have HS := Lib.hid hs
  have HN := Lib.hid h.1.1
  have HN2 := Lib.hid h2.1.1
  have hn' : (n : Int) ≤ 1000000 := by omega
  clear h h2 hs
  go_enter Try.func9, Try.ntmps9
  go_wp2
  go_loopw [5] (fun i wr => ∃ k : Nat, k ≤ n ∧ i = .int .i64 k ∧ Hid (lts (l.take k) = lts (l2.take k)) ∧ Hid (Below w.heap.size w wr)) (fun i _ => n - (RowKit.intOf i).toNat)
  case atStart => exact ⟨0, Nat.zero_le _, rfl, Lib.hid (by simp [lts]), Lib.hid (Below.refl _ _)⟩
  case round =>
    obtain ⟨k, hk, rfl, HT, HB⟩ := hrel
    by_cases hlt : k < n
    · have hk3 : (k : Int) < (n : Int) := by omega
      obtain ⟨x, hx⟩ : ∃ x, l[k]? = some x := ⟨_, List.getElem?_eq_getElem (by rw [HN.out]; exact hlt)⟩
      obtain ⟨y, hy⟩ : ∃ y, l2[k]? = some y := ⟨_, List.getElem?_eq_getElem (by rw [HN2.out]; exact hlt)⟩
      have K1 := H.out.keep HB.out
      have K2 := H2.out.keep HB.out
      obtain ⟨b, o, rfl, hc⟩ := K1.1.2 (by omega)
      obtain ⟨b2, o2, rfl, hc2⟩ := K2.1.2 (by omega)
      have s1 := K1.2 x (List.mem_of_getElem? hx)
      have s2 := K2.2 y (List.mem_of_getElem? hy)
      have C := Lib.hid (fun W (hW : Below wr.heap.size wr W) => rone_any x y W (s1.keep hW) (s2.keep hW) (HS.out x (List.mem_of_getElem? hx)))
      have TK := Lib.hid (fun e => ltakes HT.out hx hy e)
      have NT := Lib.hid (fun e => lnots hx hy e)
      have P1 := Lib.hid (hc k x hx)
      have P2 := Lib.hid (hc2 k y hy)
      clear hx hy K1 K2 hc hc2 s1 s2 H H2 HS HT
      obtain ⟨⟨i1, i2, i3, i4, i5, i6, i7, S⟩, p, n', c'⟩ := x
      obtain ⟨⟨j1, j2, j3, j4, j5, j6, j7, S2⟩, q, m, d'⟩ := y
      unfold lval at C
      simp only at C TK NT
      have HD := Lib.hid ((Below.refl wr.heap.size wr).drew)
      have e0 : wr.cell? ⟨b, o + k * 8, none⟩ = some (.int .i64 i1) := P1.out 0 (by decide)
      have e1 : wr.cell? ⟨b, o + k * 8 + 1, none⟩ = some (.int .i64 i2) := P1.out 1 (by decide)
      have e2 : wr.cell? ⟨b, o + k * 8 + 2, none⟩ = some (.int .i64 i3) := P1.out 2 (by decide)
      have e3 : wr.cell? ⟨b, o + k * 8 + 3, none⟩ = some (.int .i64 i4) := P1.out 3 (by decide)
      have e4 : wr.cell? ⟨b, o + k * 8 + 4, none⟩ = some (.int .i64 i5) := P1.out 4 (by decide)
      have e5 : wr.cell? ⟨b, o + k * 8 + 5, none⟩ = some (.int .i64 i6) := P1.out 5 (by decide)
      have e6 : wr.cell? ⟨b, o + k * 8 + 6, none⟩ = some (.int .i64 i7) := P1.out 6 (by decide)
      have e7 : wr.cell? ⟨b, o + k * 8 + 7, none⟩ = some (.slice p n' c') := P1.out 7 (by decide)
      have f0 : wr.cell? ⟨b2, o2 + k * 8, none⟩ = some (.int .i64 j1) := P2.out 0 (by decide)
      have f1 : wr.cell? ⟨b2, o2 + k * 8 + 1, none⟩ = some (.int .i64 j2) := P2.out 1 (by decide)
      have f2 : wr.cell? ⟨b2, o2 + k * 8 + 2, none⟩ = some (.int .i64 j3) := P2.out 2 (by decide)
      have f3 : wr.cell? ⟨b2, o2 + k * 8 + 3, none⟩ = some (.int .i64 j4) := P2.out 3 (by decide)
      have f4 : wr.cell? ⟨b2, o2 + k * 8 + 4, none⟩ = some (.int .i64 j5) := P2.out 4 (by decide)
      have f5 : wr.cell? ⟨b2, o2 + k * 8 + 5, none⟩ = some (.int .i64 j6) := P2.out 5 (by decide)
      have f6 : wr.cell? ⟨b2, o2 + k * 8 + 6, none⟩ = some (.int .i64 j7) := P2.out 6 (by decide)
      have f7 : wr.cell? ⟨b2, o2 + k * 8 + 7, none⟩ = some (.slice q m d') := P2.out 7 (by decide)
      by_cases he : (⟨i1, i2, i3, i4, i5, i6, i7, S⟩ : Lt) = ⟨j1, j2, j3, j4, j5, j6, j7, S2⟩
      · rw [decide_eq_true he] at C
        have HT2 := Lib.hid (TK.out he)
        clear TK NT he P1 P2
        go_wp2_with fail
        go_region_held3 (fun w' => w'.cell? ⟨b, o + k * 8, none⟩ = some (.int .i64 i1) ∧ w'.cell? ⟨b, o + k * 8 + 1, none⟩ = some (.int .i64 i2) ∧ w'.cell? ⟨b, o + k * 8 + 2, none⟩ = some (.int .i64 i3) ∧ w'.cell? ⟨b, o + k * 8 + 3, none⟩ = some (.int .i64 i4) ∧ w'.cell? ⟨b, o + k * 8 + 4, none⟩ = some (.int .i64 i5) ∧ w'.cell? ⟨b, o + k * 8 + 5, none⟩ = some (.int .i64 i6) ∧ w'.cell? ⟨b, o + k * 8 + 6, none⟩ = some (.int .i64 i7) ∧ w'.cell? ⟨b, o + k * 8 + 7, none⟩ = some (.slice p n' c') ∧ w'.cell? ⟨b2, o2 + k * 8, none⟩ = some (.int .i64 j1) ∧ w'.cell? ⟨b2, o2 + k * 8 + 1, none⟩ = some (.int .i64 j2) ∧ w'.cell? ⟨b2, o2 + k * 8 + 2, none⟩ = some (.int .i64 j3) ∧ w'.cell? ⟨b2, o2 + k * 8 + 3, none⟩ = some (.int .i64 j4) ∧ w'.cell? ⟨b2, o2 + k * 8 + 4, none⟩ = some (.int .i64 j5) ∧ w'.cell? ⟨b2, o2 + k * 8 + 5, none⟩ = some (.int .i64 j6) ∧ w'.cell? ⟨b2, o2 + k * 8 + 6, none⟩ = some (.int .i64 j7) ∧ w'.cell? ⟨b2, o2 + k * 8 + 7, none⟩ = some (.slice q m d'))
          (first | go_keep | exact ⟨d0, d1, d2, d3, d4, d5, d6, d7, g0, g1, g2, g3, g4, g5, g6, g7⟩ | exact ⟨e0, e1, e2, e3, e4, e5, e6, e7, f0, f1, f2, f3, f4, f5, f6, f7⟩)
          ((go_at_call 27; ((with_reducible refine (C.out _ HD.out).mono ?_); rintro E w3 ⟨rfl, hb⟩; have d0 := (hb.cell (p := ⟨b, o + k * 8, none⟩) (World.block_lt_of_cell? wr _ e0)).trans e0; have d1 := (hb.cell (p := ⟨b, o + k * 8 + 1, none⟩) (World.block_lt_of_cell? wr _ e1)).trans e1; have d2 := (hb.cell (p := ⟨b, o + k * 8 + 2, none⟩) (World.block_lt_of_cell? wr _ e2)).trans e2; have d3 := (hb.cell (p := ⟨b, o + k * 8 + 3, none⟩) (World.block_lt_of_cell? wr _ e3)).trans e3; have d4 := (hb.cell (p := ⟨b, o + k * 8 + 4, none⟩) (World.block_lt_of_cell? wr _ e4)).trans e4; have d5 := (hb.cell (p := ⟨b, o + k * 8 + 5, none⟩) (World.block_lt_of_cell? wr _ e5)).trans e5; have d6 := (hb.cell (p := ⟨b, o + k * 8 + 6, none⟩) (World.block_lt_of_cell? wr _ e6)).trans e6; have d7 := (hb.cell (p := ⟨b, o + k * 8 + 7, none⟩) (World.block_lt_of_cell? wr _ e7)).trans e7; have g0 := (hb.cell (p := ⟨b2, o2 + k * 8, none⟩) (World.block_lt_of_cell? wr _ f0)).trans f0; have g1 := (hb.cell (p := ⟨b2, o2 + k * 8 + 1, none⟩) (World.block_lt_of_cell? wr _ f1)).trans f1; have g2 := (hb.cell (p := ⟨b2, o2 + k * 8 + 2, none⟩) (World.block_lt_of_cell? wr _ f2)).trans f2; have g3 := (hb.cell (p := ⟨b2, o2 + k * 8 + 3, none⟩) (World.block_lt_of_cell? wr _ f3)).trans f3; have g4 := (hb.cell (p := ⟨b2, o2 + k * 8 + 4, none⟩) (World.block_lt_of_cell? wr _ f4)).trans f4; have g5 := (hb.cell (p := ⟨b2, o2 + k * 8 + 5, none⟩) (World.block_lt_of_cell? wr _ f5)).trans f5; have g6 := (hb.cell (p := ⟨b2, o2 + k * 8 + 6, none⟩) (World.block_lt_of_cell? wr _ f6)).trans f6; have g7 := (hb.cell (p := ⟨b2, o2 + k * 8 + 7, none⟩) (World.block_lt_of_cell? wr _ f7)).trans f7)))
        all_goals
          have B3 := Lib.hid (HB.out.trans (((Below.refl _ wr).drew.trans hb).mono HB.out.size))
          clear hb C HD HB e0 e1 e2 e3 e4 e5 e6 e7 f0 f1 f2 f3 f4 f5 f6 f7 d0 d1 d2 d3 d4 d5 d6 d7 g0 g1 g2 g3 g4 g5 g6 g7
          go_wp2
          go_roundw
          case rel => exact ⟨k + 1, by omega, by go_num, HT2, B3⟩
          case measure => simp [RowKit.intOf]; omega
      · rw [decide_eq_false he] at C
        have HE := Lib.hid (NT.out he)
        clear TK NT he P1 P2
        go_wp2_with fail
        go_region_held3 (fun w' => w'.cell? ⟨b, o + k * 8, none⟩ = some (.int .i64 i1) ∧ w'.cell? ⟨b, o + k * 8 + 1, none⟩ = some (.int .i64 i2) ∧ w'.cell? ⟨b, o + k * 8 + 2, none⟩ = some (.int .i64 i3) ∧ w'.cell? ⟨b, o + k * 8 + 3, none⟩ = some (.int .i64 i4) ∧ w'.cell? ⟨b, o + k * 8 + 4, none⟩ = some (.int .i64 i5) ∧ w'.cell? ⟨b, o + k * 8 + 5, none⟩ = some (.int .i64 i6) ∧ w'.cell? ⟨b, o + k * 8 + 6, none⟩ = some (.int .i64 i7) ∧ w'.cell? ⟨b, o + k * 8 + 7, none⟩ = some (.slice p n' c') ∧ w'.cell? ⟨b2, o2 + k * 8, none⟩ = some (.int .i64 j1) ∧ w'.cell? ⟨b2, o2 + k * 8 + 1, none⟩ = some (.int .i64 j2) ∧ w'.cell? ⟨b2, o2 + k * 8 + 2, none⟩ = some (.int .i64 j3) ∧ w'.cell? ⟨b2, o2 + k * 8 + 3, none⟩ = some (.int .i64 j4) ∧ w'.cell? ⟨b2, o2 + k * 8 + 4, none⟩ = some (.int .i64 j5) ∧ w'.cell? ⟨b2, o2 + k * 8 + 5, none⟩ = some (.int .i64 j6) ∧ w'.cell? ⟨b2, o2 + k * 8 + 6, none⟩ = some (.int .i64 j7) ∧ w'.cell? ⟨b2, o2 + k * 8 + 7, none⟩ = some (.slice q m d'))
          (first | go_keep | exact ⟨d0, d1, d2, d3, d4, d5, d6, d7, g0, g1, g2, g3, g4, g5, g6, g7⟩ | exact ⟨e0, e1, e2, e3, e4, e5, e6, e7, f0, f1, f2, f3, f4, f5, f6, f7⟩)
          ((go_at_call 27; ((with_reducible refine (C.out _ HD.out).mono ?_); rintro E w3 ⟨rfl, hb⟩; have d0 := (hb.cell (p := ⟨b, o + k * 8, none⟩) (World.block_lt_of_cell? wr _ e0)).trans e0; have d1 := (hb.cell (p := ⟨b, o + k * 8 + 1, none⟩) (World.block_lt_of_cell? wr _ e1)).trans e1; have d2 := (hb.cell (p := ⟨b, o + k * 8 + 2, none⟩) (World.block_lt_of_cell? wr _ e2)).trans e2; have d3 := (hb.cell (p := ⟨b, o + k * 8 + 3, none⟩) (World.block_lt_of_cell? wr _ e3)).trans e3; have d4 := (hb.cell (p := ⟨b, o + k * 8 + 4, none⟩) (World.block_lt_of_cell? wr _ e4)).trans e4; have d5 := (hb.cell (p := ⟨b, o + k * 8 + 5, none⟩) (World.block_lt_of_cell? wr _ e5)).trans e5; have d6 := (hb.cell (p := ⟨b, o + k * 8 + 6, none⟩) (World.block_lt_of_cell? wr _ e6)).trans e6; have d7 := (hb.cell (p := ⟨b, o + k * 8 + 7, none⟩) (World.block_lt_of_cell? wr _ e7)).trans e7; have g0 := (hb.cell (p := ⟨b2, o2 + k * 8, none⟩) (World.block_lt_of_cell? wr _ f0)).trans f0; have g1 := (hb.cell (p := ⟨b2, o2 + k * 8 + 1, none⟩) (World.block_lt_of_cell? wr _ f1)).trans f1; have g2 := (hb.cell (p := ⟨b2, o2 + k * 8 + 2, none⟩) (World.block_lt_of_cell? wr _ f2)).trans f2; have g3 := (hb.cell (p := ⟨b2, o2 + k * 8 + 3, none⟩) (World.block_lt_of_cell? wr _ f3)).trans f3; have g4 := (hb.cell (p := ⟨b2, o2 + k * 8 + 4, none⟩) (World.block_lt_of_cell? wr _ f4)).trans f4; have g5 := (hb.cell (p := ⟨b2, o2 + k * 8 + 5, none⟩) (World.block_lt_of_cell? wr _ f5)).trans f5; have g6 := (hb.cell (p := ⟨b2, o2 + k * 8 + 6, none⟩) (World.block_lt_of_cell? wr _ f6)).trans f6; have g7 := (hb.cell (p := ⟨b2, o2 + k * 8 + 7, none⟩) (World.block_lt_of_cell? wr _ f7)).trans f7)))
        all_goals
          have B3 := Lib.hid (HB.out.trans (((Below.refl _ wr).drew.trans hb).mono HB.out.size))
          clear hb C HD HB e0 e1 e2 e3 e4 e5 e6 e7 f0 f1 f2 f3 f4 f5 f6 f7 d0 d1 d2 d3 d4 d5 d6 d7 g0 g1 g2 g3 g4 g5 g6 g7
          go_wp2
          go_ret
          exact ⟨by rw [HE.out]; rfl, B3.out⟩
    · obtain rfl : k = n := by omega
      have HE := Lib.hid (show decide (lts l = lts l2) = true by
        rw [decide_eq_true_eq]
        have := HT.out
        rwa [List.take_of_length_le (by rw [HN.out]; exact Nat.le_refl _), List.take_of_length_le (by rw [HN2.out]; exact Nat.le_refl _)] at this)
      go_wp2
      go_ret
      exact ⟨by rw [HE.out]; rfl, HB.out⟩
theorem rsame_any (p q : Option Addr) (n m c d : Nat) (l l2 : List Lv) (w : World) (h : Ll w p n l) (h2 : Ll w q m l2) (hn : n ≤ 1000000) (hs : ∀ y ∈ l, y.n ≤ 1000000) :
    Calls Try.prog 9 #[.slice p n c, .slice q m d] w fun e w' => e = .returned (.bool (decide (lts l = lts l2))) ∧ Below w.heap.size w w' := by
  by_cases hm : n = m
  · subst hm
    exact rsame_one p q n c d l l2 w h h2 hn hs
  · have e : decide (lts l = lts l2) = false := by
      rw [decide_eq_false_iff_not]
      intro e
      have := congrArg List.length e
      unfold lts at this
      rw [List.length_map, List.length_map, h.1.1, h2.1.1] at this
      exact hm this
    rw [e]
    exact rsame_other p q n m c d w hm
end Lo
end Go.Proofs.Ytkfmkchonlajpaa
