/- A region that draws its order: what is taken, in few words. No condition but those written. -/
import Derived.Test.YtbahilakfgbgpaaDoorRng
import Derived.Test.YtbahilakfgbgpaaDoorBytes
import Derived.Deep.QuietTactic
namespace Go.Proofs.YtbahilakfgbgpaaDoor
open Go.RowKit

section
variable {md : Region.Mode} {Q : Exit → Act → World → Prop} {S : World → Prop} {N : Nat} {l : List Oper} {P : Program}
/-- An operation that yields its value in each world that meets the condition. -/
theorem tk (i : Nat) {oi : Oper} {v : Value} {f : Nat} {listed : Array Bool} {a a' : Act} {w : World}
    (h : anyT P md l.toArray Q S N f (listed.setIfInBounds i true) a' w)
    (hi : l[i]? = some oi := by rfl) (hs : Region.noSelect l.toArray = true := by kernel_rfl) (hw : allWait md l.toArray N i = true := by kernel_rfl) (hc : shutB md l.toArray listed = true := by kernel_rfl) (hf : Region.free md l.toArray listed i = true := by kernel_rfl)
    (hr : (Region.ready md l.toArray listed).contains i = true := by kernel_rfl) (hQ : ∀ c a w, Q (.panic c) (a.put oi.dst v) w → Q (.panic c) a w := by exact fun _ _ _ h => h)
    (hy : YieldsIf P l.toArray S oi v a := by exact Or.inl ⟨by rfl, by intro w' hSw; (try dsimp only at hSw); go_simp; with_reducible rfl⟩) (hS : S w := by assumption)
    (ha : a.put oi.dst v = a' := by (try simp only [Act.put, List.setIfInBounds_toArray, List.set_cons_zero, List.set_cons_succ]); exact rfl) : anyT P md l.toArray Q S N (f + 1) listed a w :=
  takeL hi hs hw hc hf hr hQ hy hS (by rw [ha]; exact h)
end
/-- At an append of bytes, in a region that draws its order. -/
theorem step_appB {w : World} {ops : Array Oper} {o : Oper} {a : Act} {K : Act → World → Prop} {Q : Exit → Act → World → Prop} {E : Prop} (hgd : o.guard = none) (s x : Operand)
    (ho : o.op = .call { callee := .builtin .append, args := #[s, x], argTypes := #[23, 23] })
    {B : Nat} {v : Value} {n : Nat} {xs : List Value} (hs : a.eval s = v) (hown : w.ownsRow B 5 1 v n xs) {p : Option Addr} {m c : Nat} {l : List Nat} (hx : a.eval x = .slice p m c) (h : At w p m l)
    (hbig : n + m ≤ 70000000000000) (hb : B ≤ w.heap.size)
    (hK : ∀ v' w', w'.ownsRow B 5 1 v' (n + m) (xs ++ bys l) → w.grownBy w' v.ownBlock → (v'.ownBlock = v.ownBlock ∨ v'.ownBlock = some w.heap.size) → K (a.put o.dst v') w') :
    if Region.wanted o (yielded ops a.tmps) = true then Oper.wp Tryd.prog o a w K Q else E := by
  rw [if_pos (by simp [Region.wanted, hgd])]
  obtain ⟨v', w', hr, h2, h3, h4⟩ := app_run hown h (c := c) hbig hb o.type
  exact Lib.wp_append_run w s x 23 23 ho v (.slice p m c) hs hx v' w' hr (hK v' w' h2 h3 h4)
end Go.Proofs.YtbahilakfgbgpaaDoor
