/- What layer 10's laws, and later layers, lean on of package master: a bundle of contracts, whatever the package is like inside. No condition but those written. -/
import Derived.Test.YtpceoklacpcfkaaMsMap
namespace Go.Proofs.Ytpceoklacpcfkaa
open Go.RowKit

namespace Ms
/-- Zones, products, in order, that may be. -/
structure GoodZ (S : List Zn) : Prop where
  ord : Ord Zn.id S
  right : ∀ x ∈ S, rightZ x = true
structure GoodP (S : List Pd) : Prop where
  ord : Ord Pd.id S
  right : ∀ x ∈ S, rightP x = true
theorem goodZ_nil : GoodZ [] := ⟨ord_nil, fun x hx => by simp at hx⟩
theorem goodP_nil : GoodP [] := ⟨ord_nil, fun x hx => by simp at hx⟩
theorem rightZ_id {x : Zn} (h : rightZ x = true) : 1 ≤ x.id ∧ x.id ≤ 16 := by
  unfold rightZ at h
  exact ft_t.1 ((Bool.and_eq_true _ _).mp h).1
theorem rightP_id {x : Pd} (h : rightP x = true) : 1 ≤ x.id ∧ x.id ≤ 16 := by
  unfold rightP at h
  exact ft_t.1 ((Bool.and_eq_true _ _).mp h).1
theorem goodZ_add {S : List Zn} (h : GoodZ S) (z : Zn) : GoodZ (addZ S z).2 := by
  refine ⟨addZ_ord h.ord, fun x hx => ?_⟩
  unfold addZ at hx
  split at hx
  · rename_i hr
    unfold addL at hx
    split at hx
    · exact h.right x hx
    · rcases ins_mem.1 hx with rfl | hx
      · exact hr
      · exact h.right x hx
  · exact h.right x hx
theorem goodP_add {S : List Pd} (h : GoodP S) (z : Pd) : GoodP (addP S z).2 := by
  refine ⟨addP_ord h.ord, fun x hx => ?_⟩
  unfold addP at hx
  split at hx
  · rename_i hr
    unfold addL at hx
    split at hx
    · exact h.right x hx
    · rcases ins_mem.1 hx with rfl | hx
      · exact hr
      · exact h.right x hx
  · exact h.right x hx
/-- A list that is handed out: the call's own row. -/
def ZsEnd (Z : List Zn) (w : World) (e : Ending) (w' : World) : Prop := ∃ v, e = .returned v ∧ w'.ownsRow w.heap.size 33 6 v Z.length (Z.flatMap zcells) ∧ Below w.heap.size w w'
def PsEnd (P : List Pd) (w : World) (e : Ending) (w' : World) : Prop := ∃ v, e = .returned v ∧ w'.ownsRow w.heap.size 36 3 v P.length (P.flatMap pcells) ∧ Below w.heap.size w w'
/-- Contracts of package master: a master at block h, its memory F, its zones and products in order. -/
structure Face where
  DB : World → Nat → Nat → (Nat → Prop) → List Zn → List Pd → Prop
  foot : ∀ {w : World} {B h : Nat} {F : Nat → Prop} {Z : List Zn} {P : List Pd} {k : Nat}, DB w B h F Z P → F k → B ≤ k ∧ k < w.heap.size
  turn : ∀ {w w' : World} {B h : Nat} {F T : Nat → Prop} {Z : List Zn} {P : List Pd}, DB w B h F Z P → Turn T w w' → (∀ k, F k → ¬ T k) → DB w' B h F Z P
  new : ∀ (w : World), Calls Try.prog 6 #[] w fun e w' => ∃ h F, e = .returned (.pointer (some ⟨h, 0, none⟩)) ∧ DB w' w.heap.size h F [] [] ∧ Below w.heap.size w w'
  addZ : ∀ (B h : Nat) (F : Nat → Prop) (Z : List Zn) (P : List Pd) (z : Zn) (w : World), DB w B h F Z P → GoodZ Z → Z.length ≤ 1000 → Calls Try.prog 7 #[.pointer (some ⟨h, 0, none⟩), zval z] w fun e w' =>
    e = .returned (.int .i64 ((addZ Z z).1 : Nat)) ∧ ∃ F', DB w' B h F' (addZ Z z).2 P ∧ Turn F w w' ∧ ∀ k, F' k → F k ∨ w.heap.size ≤ k
  addP : ∀ (B h : Nat) (F : Nat → Prop) (Z : List Zn) (P : List Pd) (p : Pd) (w : World), DB w B h F Z P → GoodP P → P.length ≤ 1000 → Calls Try.prog 9 #[.pointer (some ⟨h, 0, none⟩), pval p] w fun e w' =>
    e = .returned (.int .i64 ((addP P p).1 : Nat)) ∧ ∃ F', DB w' B h F' Z (addP P p).2 ∧ Turn F w w' ∧ ∀ k, F' k → F k ∨ w.heap.size ≤ k
  zone : ∀ (B h : Nat) (F : Nat → Prop) (Z : List Zn) (P : List Pd) (m : Int) (w : World), DB w B h F Z P → -9223372036854775808 ≤ m → m ≤ 9223372036854775807 → Calls Try.prog 11 #[.pointer (some ⟨h, 0, none⟩), .int .i64 m] w fun e w' =>
    e = .returned (.tuple #[zval (getK (findK Zn.id m Z) zn0).1, .int .i64 ((getK (findK Zn.id m Z) zn0).2 : Nat)]) ∧ Below w.heap.size w w'
  product : ∀ (B h : Nat) (F : Nat → Prop) (Z : List Zn) (P : List Pd) (m : Int) (w : World), DB w B h F Z P → -9223372036854775808 ≤ m → m ≤ 9223372036854775807 → Calls Try.prog 13 #[.pointer (some ⟨h, 0, none⟩), .int .i64 m] w fun e w' =>
    e = .returned (.tuple #[pval (getK (findK Pd.id m P) pd0).1, .int .i64 ((getK (findK Pd.id m P) pd0).2 : Nat)]) ∧ Below w.heap.size w w'
  zones : ∀ (B h : Nat) (F : Nat → Prop) (Z : List Zn) (P : List Pd) (w : World), DB w B h F Z P → GoodZ Z → Z.length ≤ 1000 → Calls Try.prog 16 #[.pointer (some ⟨h, 0, none⟩)] w (ZsEnd Z w)
  products : ∀ (B h : Nat) (F : Nat → Prop) (Z : List Zn) (P : List Pd) (w : World), DB w B h F Z P → GoodP P → P.length ≤ 1000 → Calls Try.prog 18 #[.pointer (some ⟨h, 0, none⟩)] w (PsEnd P w)
  nil_addZ : ∀ (z : Zn) (w : World), Calls Try.prog 7 #[.pointer none, zval z] w fun e w' => e = .returned (.int .i64 1) ∧ Below w.heap.size w w'
  nil_addP : ∀ (p : Pd) (w : World), Calls Try.prog 9 #[.pointer none, pval p] w fun e w' => e = .returned (.int .i64 1) ∧ Below w.heap.size w w'
  nil_zone : ∀ (m : Int) (w : World), Calls Try.prog 11 #[.pointer none, .int .i64 m] w fun e w' => e = .returned (.tuple #[zval zn0, .int .i64 1]) ∧ Below w.heap.size w w'
  nil_product : ∀ (m : Int) (w : World), Calls Try.prog 13 #[.pointer none, .int .i64 m] w fun e w' => e = .returned (.tuple #[pval pd0, .int .i64 1]) ∧ Below w.heap.size w w'
  nil_zones : ∀ (w : World), Calls Try.prog 16 #[.pointer none] w fun e w' => e = .returned (.slice none 0 0) ∧ Below w.heap.size w w'
  nil_products : ∀ (w : World), Calls Try.prog 18 #[.pointer none] w fun e w' => e = .returned (.slice none 0 0) ∧ Below w.heap.size w w'
theorem Face.keep (I : Face) {w w' : World} {B h : Nat} {F : Nat → Prop} {Z : List Zn} {P : List Pd} (hp : I.DB w B h F Z P) (hb : Below w.heap.size w w') : I.DB w' B h F Z P :=
  I.turn hp (T := fun _ => False) (Turn.of_below hb) (fun _ _ hf => hf)
theorem Face.next_below (I : Face) {w wi w' : World} {B h : Nat} {F : Nat → Prop} {Z Z' : List Zn} {P P' : List Pd} (hp : I.DB wi B h F Z P) (hb : Below B w wi) (hB : B ≤ wi.heap.size) (h' : ∃ F', I.DB w' B h F' Z' P' ∧ Turn F wi w' ∧ ∀ k, F' k → F k ∨ wi.heap.size ≤ k) :
    ∃ F', I.DB w' B h F' Z' P' ∧ Below B w w' := by
  obtain ⟨F', h1, ht, _⟩ := h'
  exact ⟨F', h1, ht.below hb hB (fun i hi => (I.foot hp hi).1)⟩
end Ms
end Go.Proofs.Ytpceoklacpcfkaa
