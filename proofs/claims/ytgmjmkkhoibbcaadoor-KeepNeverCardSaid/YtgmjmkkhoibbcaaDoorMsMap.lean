/- Maps from whole numbers to things of one form, as lists in the order of that number. No condition but those written. -/
import Derived.Test.YtgmjmkkhoibbcaaDoorMsNum
import Derived.Test.YtgmjmkkhoibbcaaDoorRw
import Derived.Lib.Hide
import Derived.Lib.SlKeysI
import Derived.Maps.OwnSet
import Derived.Maps.Views
import Derived.Maps.Ext
namespace Go.Proofs.YtgmjmkkhoibbcaaDoor
open Go.RowKit Go.Maps

namespace Ms
theorem lawI : Keyed Tryd.prog 3 := int_keyed Tryd.underlying3
def In64 (m : Int) : Prop := (Lit.int .i64 m).wf = true
theorem key_of {n : Int} (h : In64 n) : keyOf Tryd.prog 3 (.int .i64 n) = some (.int .i64 n) := keyOf_int_mk Tryd.underlying3 h
theorem in64_of {m : Int} (h0 : -9223372036854775808 ≤ m) (h1 : m ≤ 9223372036854775807) : In64 m := WalkArith.wf_i64 ⟨h0, h1⟩
theorem key_lit (n : Int) : WideAt.IsKeyLit (.int .i64 n) := trivial
theorem lit_ne {a b : Int} (h : a ≠ b) : Lit.int .i64 a ≠ Lit.int .i64 b := fun e => by
  injection e with _ e
  exact h e
/-- A form of things: the value of each, and what it reads as. -/
structure Form (α : Type) where
  enc : α → Value
  dat : α → DataW Unit
  inj : ∀ {x y}, enc x = enc y → x = y
  dinj : ∀ {x y}, dat x = dat y → x = y
section
variable {α : Type} (Fm : Form α)
open Classical in
/-- How a value reads. -/
noncomputable def rdF (v : Value) : Option (DataW Unit × List MemPlace) := if h : ∃ x, Fm.enc x = v then some (Fm.dat h.choose, []) else none
variable {Fm}
theorem rd_mk (x : α) : rdF Fm (Fm.enc x) = some (Fm.dat x, []) := by
  have h : ∃ y, Fm.enc y = Fm.enc x := ⟨x, rfl⟩
  unfold rdF
  rw [dif_pos h, Fm.inj h.choose_spec]
theorem rd_inv {v : Value} {z : DataW Unit × List MemPlace} (h : rdF Fm v = some z) : ∃ x, v = Fm.enc x ∧ z = (Fm.dat x, []) := by
  unfold rdF at h
  by_cases hx : ∃ x, Fm.enc x = v
  · rw [dif_pos hx] at h
    exact ⟨hx.choose, hx.choose_spec.symm, (Option.some.inj h).symm⟩
  · rw [dif_neg hx] at h
    cases h
theorem own_like {w w' : World} {b n : Nat} {D : DataW Unit} (h : w.ownsMap Tryd.prog 3 (rdF Fm) b n D) (e : w'.heap[b]? = w.heap[b]?) : w'.ownsMap Tryd.prog 3 (rdF Fm) b n D := by
  obtain ⟨es, clock, hb, F, hs, hD⟩ := h
  exact ⟨es, clock, e.trans hb, F, hs, hD⟩
theorem own_tight {w : World} {b n : Nat} {D : DataW Unit} (h : w.ownsMap Tryd.prog 3 (rdF Fm) b n D) : w.ownsMap Tryd.prog 3 (rdF Fm) b (Maps.size D) D := by
  obtain ⟨es, clock, hb, F, hs, rfl⟩ := h
  refine ⟨es, clock, hb, F, ?_, rfl⟩
  rw [Maps.size_eq, length_sorted]
  simp
variable (Fm) (key : α → Int)
/-- A map that holds just these. -/
structure Mp (D : DataW Unit) (S : List α) : Prop where
  each : ∀ x ∈ S, ∀ z, D.atKey (.int .i64 (key x)) z = Fm.dat x
  only : ∀ n, Maps.has D (.int .i64 n) = true → ∃ x ∈ S, key x = n
  size : Maps.size D = S.length
variable {Fm key}
theorem mp_nil : Mp Fm key (.map []) [] := ⟨fun x hx => by simp at hx, fun n h => by simp [Maps.has] at h, rfl⟩
theorem mp_has {D : DataW Unit} {S : List α} (h : Mp Fm key D S) (n : Int) : Maps.has D (.int .i64 n) = (findK key n S).isSome := by
  cases hf : findK key n S with
  | none =>
    cases hb : Maps.has D (.int .i64 n)
    · rfl
    · obtain ⟨x, hx, e⟩ := h.only n hb
      exact absurd e (find_none.1 hf x hx)
  | some x =>
    obtain ⟨hx, e⟩ := find_some hf
    rw [← e]
    exact Maps.has_true_of_atKey (h.each x hx)
theorem mp_at {D : DataW Unit} {S : List α} (h : Mp Fm key D S) (n : Int) (x0 : α) : D.atKey (.int .i64 n) (Fm.dat x0) = Fm.dat ((findK key n S).getD x0) := by
  cases hf : findK key n S with
  | none =>
    rw [Maps.atKey_of_not_has (by rw [mp_has h, hf]; rfl)]
    rfl
  | some x =>
    obtain ⟨hx, e⟩ := find_some hf
    rw [← e]
    exact h.each x hx _
/-- One more. -/
theorem mp_put {D : DataW Unit} {S : List α} (h : Mp Fm key D S) (ht : Maps.Tidy D) {x : α} (hn : findK key (key x) S = none) : Mp Fm key (D.put (.int .i64 (key x)) (Fm.dat x)) (ins key x S) := by
  have hno := find_none.1 hn
  refine ⟨fun y hy z => ?_, fun n hh => ?_, ?_⟩
  · rcases ins_mem.1 hy with rfl | hy
    · exact Maps.atKey_put_same ht.isMap (key_lit _) _ _
    · rw [Maps.atKey_put_other (lit_ne (hno y hy))]
      exact h.each y hy z
  · by_cases e : n = key x
    · exact ⟨x, ins_mem.2 (.inl rfl), e.symm⟩
    · rw [Maps.has_put_other (lit_ne e)] at hh
      obtain ⟨y, hy, e2⟩ := h.only n hh
      exact ⟨y, ins_mem.2 (.inr hy), e2⟩
  · rw [Maps.size_put ht, if_neg (by rw [mp_has h, hn]; exact Bool.false_ne_true), h.size, ins_len]
/-- Its numbers, in order. -/
theorem mp_keys {w : World} {b n : Nat} {D : DataW Unit} {S : List α} (hown : w.ownsMap Tryd.prog 3 (rdF Fm) b n D) (h : Mp Fm key D S) (hS : Ord key S) {ss : List Int} (hp : ss.Perm (intKeys D)) :
    ss.length = S.length ∧ ss.mergeSort (fun x y => decide (x ≤ y)) = S.map key := by
  obtain ⟨es, hD, hpw, _⟩ := hown.entries lawI
  obtain ⟨es', hD', hko⟩ := hown.keysOf
  obtain rfl : es = es' := by rw [hD] at hD'; simpa using hD'
  subst hD
  have hnd : (S.map key).Nodup := by
    refine List.pairwise_map.2 (hS.imp fun {a b} h => ?_)
    omega
  have hq : (S.map key).Perm (intKeys (.map es)) := perm_intKeys hpw (fun p hp => by
    obtain ⟨v, hv⟩ := hko p hp
    obtain ⟨x, _, hx, _⟩ := Maps.keyOf_i64 Tryd.underlying3 hv
    exact ⟨x, hx⟩) hnd (fun n => by
    rw [List.mem_map]
    constructor
    · rintro ⟨x, hx, rfl⟩
      exact Maps.has_true_of_atKey (h.each x hx)
    · intro hn
      obtain ⟨x, hx, e⟩ := h.only n hn
      exact ⟨x, hx, e⟩)
  have hqq := hp.trans hq.symm
  refine ⟨by rw [hqq.length_eq, List.length_map], ?_⟩
  have h1 := mergeSort_of_perm_i hqq
  refine h1.trans (List.mergeSort_of_pairwise (List.pairwise_map.2 (hS.imp fun {a b} h => ?_)))
  simp only [leI, decide_eq_true_eq]
  omega
set_option maxRecDepth 100000 in
/-- What a number holds: with a word on whether there is any. -/
theorem look {w : World} {b n : Nat} {D : DataW Unit} {S : List α} {t e : TypeId} (ht : Tryd.prog.underlying t = some (.map 3 e)) (x0 : α) (hz : ∀ W, (zeroValue e).run Tryd.prog W = .ok (Fm.enc x0) W) (hown : w.ownsMap Tryd.prog 3 (rdF Fm) b n D) (h : Mp Fm key D S) {m : Int} (hm : In64 m) (W : World) (hW : W.heap[b]? = w.heap[b]?) :
    (Instr.lookup t (.map (some b)) (.int .i64 m) true).run Tryd.prog W = .ok (.tuple #[Fm.enc ((findK key m S).getD x0), .bool (findK key m S).isSome]) W := by
  obtain ⟨v, ps, hrun, hv⟩ := (own_like hown hW).look_ok lawI ht (hz W) (zd := Fm.dat x0) (rd_mk x0) (key_of hm)
  obtain ⟨y, rfl, hy⟩ := rd_inv hv
  injection hy with hy _
  rw [mp_at h] at hy
  rw [hrun, mp_has h, Fm.dinj hy]
set_option maxRecDepth 100000 in
theorem look1 {w : World} {b n : Nat} {D : DataW Unit} {S : List α} {t e : TypeId} (ht : Tryd.prog.underlying t = some (.map 3 e)) (x0 : α) (hz : ∀ W, (zeroValue e).run Tryd.prog W = .ok (Fm.enc x0) W) (hown : w.ownsMap Tryd.prog 3 (rdF Fm) b n D) (h : Mp Fm key D S) {m : Int} (hm : In64 m) (W : World) (hW : W.heap[b]? = w.heap[b]?) :
    (Instr.lookup t (.map (some b)) (.int .i64 m) false).run Tryd.prog W = .ok (Fm.enc ((findK key m S).getD x0)) W := by
  obtain ⟨v, ps, hrun, hv⟩ := (own_like hown hW).lookup lawI ht (hz W) (zd := Fm.dat x0) (rd_mk x0) (key_of hm)
  obtain ⟨y, rfl, hy⟩ := rd_inv hv
  injection hy with hy _
  rw [mp_at h] at hy
  rw [hrun, Fm.dinj hy]
/-- A cell that leads to nothing, or to a map of these. -/
def Tab (Fm : Form α) (key : α → Int) (w : World) (B : Nat) (mo : Option Nat) (S : List α) : Prop :=
  (mo = none ∧ S = []) ∨ ∃ b D, mo = some b ∧ B ≤ b ∧ w.ownsMap Tryd.prog 3 (rdF Fm) b S.length D ∧ Mp Fm key D S
theorem tab_lt {w : World} {B : Nat} {mo : Option Nat} {S : List α} (h : Tab Fm key w B mo S) {k : Nat} (hk : mo = some k) : B ≤ k ∧ k < w.heap.size := by
  rcases h with ⟨e, _⟩ | ⟨b, D, e, hB, hown, _⟩
  · rw [e] at hk
    cases hk
  · rw [e] at hk
    obtain rfl := Option.some.inj hk
    exact ⟨hB, hown.lt⟩
theorem tab_turn {w w' : World} {B : Nat} {mo : Option Nat} {S : List α} {T : Nat → Prop} (h : Tab Fm key w B mo S) (ht : Turn T w w') (hn : ∀ k, mo = some k → ¬ T k) : Tab Fm key w' B mo S := by
  rcases h with h | ⟨b, D, e, hB, hown, hM⟩
  · exact .inl h
  · exact .inr ⟨b, D, e, hB, own_like hown (ht.block b hown.lt (hn b e)), hM⟩
/-- A map's block is none whose cells lie. -/
theorem tab_ne {w : World} {B : Nat} {mo : Option Nat} {S : List α} (h : Tab Fm key w B mo S) {g : Nat} {t : TypeId} {cs : Array Value} (hl : Lies w g t cs) : mo ≠ some g := by
  rcases h with ⟨e, _⟩ | ⟨b, D, e, _, ⟨es, clock, hb, _⟩, _⟩
  · rw [e]
    intro h
    cases h
  · rw [e]
    intro h
    obtain rfl := Option.some.inj h
    have e2 := Option.some.inj (Eq.trans (Eq.symm hb) hl)
    cases e2
end
def zval (z : Zn) : Value := .agg #[.int .i64 z.id, .int .i64 z.worst, .int .i64 z.gap, .int .i64 z.room, .bool z.dock, .int .i64 z.ajar]
def zcells (z : Zn) : List Value := [.int .i64 z.id, .int .i64 z.worst, .int .i64 z.gap, .int .i64 z.room, .bool z.dock, .int .i64 z.ajar]
def zdat (z : Zn) : DataW Unit := .agg [.lit (.int .i64 z.id), .lit (.int .i64 z.worst), .lit (.int .i64 z.gap), .lit (.int .i64 z.room), .lit (.bool z.dock), .lit (.int .i64 z.ajar)]
def pval (p : Pd) : Value := .agg #[.int .i64 p.id, .int .i64 p.limit, .int .i64 p.budget]
def pcells (p : Pd) : List Value := [.int .i64 p.id, .int .i64 p.limit, .int .i64 p.budget]
def pdat (p : Pd) : DataW Unit := .agg [.lit (.int .i64 p.id), .lit (.int .i64 p.limit), .lit (.int .i64 p.budget)]
theorem zcells_len (z : Zn) : (zcells z).length = 6 := rfl
theorem pcells_len (p : Pd) : (pcells p).length = 3 := rfl
def Zf : Form Zn := ⟨zval, zdat, fun {x y} h => by
  simp only [zval, Value.agg.injEq, Array.mk.injEq, List.cons.injEq, Value.int.injEq, Value.bool.injEq, true_and, and_true] at h
  exact zn_ext h, fun {x y} h => by
  simp only [zdat, DataW.agg.injEq, List.cons.injEq, DataW.lit.injEq, Lit.int.injEq, Lit.bool.injEq, true_and, and_true] at h
  exact zn_ext h⟩
def Pf : Form Pd := ⟨pval, pdat, fun {x y} h => by
  simp only [pval, Value.agg.injEq, Array.mk.injEq, List.cons.injEq, Value.int.injEq, true_and, and_true] at h
  exact pd_ext h, fun {x y} h => by
  simp only [pdat, DataW.agg.injEq, List.cons.injEq, DataW.lit.injEq, Lit.int.injEq, true_and, and_true] at h
  exact pd_ext h⟩
theorem zeroP (W : World) : (zeroValue 23).run Tryd.prog W = .ok (Pf.enc pd0) W := by kernel_rfl
end Ms
end Go.Proofs.YtgmjmkkhoibbcaaDoor
