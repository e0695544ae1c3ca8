/- Append onto a row of structs that a call owns, the other list read as structs, nil let in: for every program. No condition but those written. -/
import Derived.Test.YtklhapekfgcplaaRw
import Derived.Test.YtklhapekfgcplaaMem
import Derived.Lib.AppendZeros
import Derived.Maps.AppendAt
namespace Go.Proofs.Ytklhapekfgcplaa
open Go.RowKit

namespace Ra
variable {α : Type} {k : Nat} {enc : α → List Value}
theorem news_of (hk : ∀ x, (enc x).length = k) (h0 : 0 < k) {W : World} {b o n : Nat} {l : List α} (h : Rw k enc W (some ⟨b, o, none⟩) n l) : ∀ j u, (l.flatMap enc)[j]? = some u → W.cell? (Addr.add ⟨b, o, none⟩ j) = some u := by
  intro j u hj
  have hlt := (List.getElem?_eq_some_iff.1 hj).1
  rw [flat_len hk] at hlt
  have hl : 0 < l.length := by
    rcases Nat.eq_zero_or_pos l.length with e | e
    · rw [e] at hlt
      simp at hlt
    · exact e
  have hm : j / k < l.length := (Nat.div_lt_iff_lt_mul h0).2 hlt
  obtain ⟨x, hx⟩ : ∃ x, l[j / k]? = some x := ⟨_, List.getElem?_eq_getElem hm⟩
  have h3 := Nat.mod_lt j h0
  have h4 : j / k * k + j % k = j := by rw [Nat.mul_comm]; exact Nat.div_add_mod j k
  obtain ⟨b', o', e, hc⟩ := h.2 (by rw [← h.1]; exact hl)
  cases e
  have h5 := hc (j / k) x hx (j % k) h3
  have h6 := flat_at hk l (j / k) (j % k) x hx h3
  rw [h4] at h6
  rw [hj] at h6
  have e2 : o + j / k * k + j % k = o + j := by omega
  rw [e2] at h5
  rw [add_none]
  exact h5.trans h6.symm
theorem ones_of (h1 : ∀ x, ∀ u ∈ enc x, u.oneCell' = true) (l : List α) : ∀ u ∈ l.flatMap enc, u.oneCell' = true := fun u hu => by
  obtain ⟨x, _, hx⟩ := List.mem_flatMap.1 hu
  exact h1 x u hx
theorem rw_nothing {W : World} {n : Nat} {l : List α} (h : Rw k enc W none n l) : n = 0 ∧ l = [] := by
  rcases Nat.eq_zero_or_pos n with e | e
  · subst e
    exact ⟨rfl, List.eq_nil_of_length_eq_zero h.1⟩
  · obtain ⟨_, _, e', _⟩ := h.2 e
    cases e'
/-- A row that reads as structs need not lie at a plain address where it is empty. -/
theorem rw_spot {W : World} {a : Addr} {n : Nat} {l : List α} (h : Rw k enc W (some a) n l) : (∃ b o, a = ⟨b, o, none⟩) ∨ (n = 0 ∧ l = []) := by
  rcases Nat.eq_zero_or_pos n with e | e
  · subst e
    exact .inr ⟨rfl, List.eq_nil_of_length_eq_zero h.1⟩
  · obtain ⟨b, o, e', _⟩ := h.2 e
    exact .inl ⟨b, o, Option.some.inj e'⟩
theorem run_app {P : Program} (hk : ∀ x, (enc x).length = k) (h1 : ∀ x, ∀ u ∈ enc x, u.oneCell' = true) {t e : TypeId} {i : TypeInfo} {z : Value} {bytes : Nat} (ht : P.underlying t = some (.slice e)) (hi : P.info? e = some i) (hz : i.zero = some z)
    (hs : i.size = k) (hb : i.bytes = bytes) (hzs : z.cells.size = k) (h0 : 0 < k) {w : World} {B : Nat} {v : Value} {n : Nat} {l : List α} (hown : w.ownsRow B e k v n (l.flatMap enc)) {p : Option Addr} {m c : Nat} {l2 : List α} (h : Rw k enc w p m l2)
    (h63 : n + m ≤ maxLen) (hbytes : (n + m) * bytes ≤ 140737488355328) (hB : B ≤ w.heap.size) (ty : TypeId) :
    ∃ q d w', (Builtin.append_ #[t, t] ty #[v, .slice p m c]).run P w = .ok (.slice q (n + m) d) w' ∧ w'.ownsRow B e k (.slice q (n + m) d) (n + m) ((l ++ l2).flatMap enc) ∧ w.grownBy w' v.ownBlock ∧ ((Value.slice q (n + m) d).ownBlock = v.ownBlock ∨ (Value.slice q (n + m) d).ownBlock = some w.heap.size) := by
  have key : ∃ v' w', (Builtin.append_ #[t, t] ty #[v, .slice p m c]).run P w = .ok v' w' ∧ w'.ownsRow B e k v' (n + m) ((l ++ l2).flatMap enc) ∧ w.grownBy w' v.ownBlock ∧ (v'.ownBlock = v.ownBlock ∨ v'.ownBlock = some w.heap.size) := by
    cases p with
    | none =>
      obtain ⟨rfl, rfl⟩ := rw_nothing h
      refine ⟨v, w, ?_, by simpa using hown, ⟨rfl, rfl, rfl, Nat.le_refl _, fun _ _ _ => rfl⟩, .inl rfl⟩
      rcases hown.2 with ⟨rfl, rfl⟩ | ⟨g, cap, cur, rfl, _, _, hnc, _⟩
      · simp [Builtin.append_, run_underlying ht, sizeOf, typeInfo, hi, Builtin.lenOf, Builtin.firstCells]
      · simp [Builtin.append_, run_underlying ht, sizeOf, typeInfo, hi, Builtin.lenOf, Builtin.firstCells, hnc, storeCells]
    | some a =>
      have hnews : ∀ j u, (l2.flatMap enc)[j]? = some u → w.cell? (a.add j) = some u := by
        rcases rw_spot h with ⟨b, o, rfl⟩ | ⟨_, rfl⟩
        · exact news_of hk h0 h
        · intro j u hj
          cases hj
      obtain ⟨v', w', hr, h2, h3, _, h5⟩ := run_append_own_at (P := P) w B t ty e i z k bytes ht hi hz hs hb hzs h0 v n (l.flatMap enc) hown a m c (l2.flatMap enc) (by rw [flat_len hk, h.1]) hnews (ones_of h1 l2) h63 hbytes hB
      exact ⟨v', w', hr, by rwa [List.flatMap_append], h3, h5⟩
  obtain ⟨v', w', hr, h2, h3, h5⟩ := key
  obtain ⟨q, d, rfl⟩ := own_slice h2
  exact ⟨q, d, w', hr, h2, h3, h5⟩
/-- At the operation, in a walk. -/
theorem wpList_app {P : Program} (hk : ∀ x, (enc x).length = k) (h1 : ∀ x, ∀ u ∈ enc x, u.oneCell' = true) {t e : TypeId} {i : TypeInfo} {z : Value} {bytes : Nat} (ht : P.underlying t = some (.slice e)) (hi : P.info? e = some i) (hz : i.zero = some z)
    (hsz : i.size = k) (hb : i.bytes = bytes) (hzs : z.cells.size = k) (h0 : 0 < k) {w : World} {ops : Array Oper} {rest : List Oper} {o : Oper} {a : Act} {Q : Exit → Act → World → Prop} (hgd : o.guard = none) (s x : Operand)
    (ho : o.op = .call { callee := .builtin .append, args := #[s, x], argTypes := #[t, t] })
    {B : Nat} {v : Value} {n : Nat} {l : List α} (hown : w.ownsRow B e k v n (l.flatMap enc)) (hs : a.eval s = v) {p : Option Addr} {m c : Nat} {l2 : List α} (h : Rw k enc w p m l2) (hx : a.eval x = .slice p m c)
    (h63 : n + m ≤ maxLen) (hbytes : (n + m) * bytes ≤ 140737488355328) (hB : B ≤ w.heap.size)
    (hK : ∀ q d w', w'.ownsRow B e k (.slice q (n + m) d) (n + m) ((l ++ l2).flatMap enc) → w.grownBy w' v.ownBlock → ((Value.slice q (n + m) d).ownBlock = v.ownBlock ∨ (Value.slice q (n + m) d).ownBlock = some w.heap.size) → wpList P ops Q rest (a.put o.dst (.slice q (n + m) d)) w') :
    wpList P ops Q (o :: rest) a w := by
  obtain ⟨q, d, w', hr, h2, h3, h4⟩ := run_app hk h1 ht hi hz hsz hb hzs h0 hown h (c := c) h63 hbytes hB o.type
  exact Lib.wpList_append_run w hgd s x t t ho v (.slice p m c) hs hx _ w' hr (hK q d w' h2 h3 h4)
/-- At the operation, in a region that draws its order. -/
theorem step_app {P : Program} (hk : ∀ x, (enc x).length = k) (h1 : ∀ x, ∀ u ∈ enc x, u.oneCell' = true) {t e : TypeId} {i : TypeInfo} {z : Value} {bytes : Nat} (ht : P.underlying t = some (.slice e)) (hi : P.info? e = some i) (hz : i.zero = some z)
    (hsz : i.size = k) (hb : i.bytes = bytes) (hzs : z.cells.size = k) (h0 : 0 < k) {w : World} {ops : Array Oper} {o : Oper} {a : Act} {K : Act → World → Prop} {Q : Exit → Act → World → Prop} {E : Prop} (hgd : o.guard = none) (s x : Operand)
    (ho : o.op = .call { callee := .builtin .append, args := #[s, x], argTypes := #[t, t] })
    {B : Nat} {v : Value} {n : Nat} {l : List α} (hown : w.ownsRow B e k v n (l.flatMap enc)) (hs : a.eval s = v) {p : Option Addr} {m c : Nat} {l2 : List α} (h : Rw k enc w p m l2) (hx : a.eval x = .slice p m c)
    (h63 : n + m ≤ maxLen) (hbytes : (n + m) * bytes ≤ 140737488355328) (hB : B ≤ w.heap.size)
    (hK : ∀ q d w', w'.ownsRow B e k (.slice q (n + m) d) (n + m) ((l ++ l2).flatMap enc) → w.grownBy w' v.ownBlock → ((Value.slice q (n + m) d).ownBlock = v.ownBlock ∨ (Value.slice q (n + m) d).ownBlock = some w.heap.size) → K (a.put o.dst (.slice q (n + m) d)) w') :
    if Region.wanted o (yielded ops a.tmps) = true then Oper.wp P o a w K Q else E := by
  rw [if_pos (by simp [Region.wanted, hgd])]
  obtain ⟨q, d, w', hr, h2, h3, h4⟩ := run_app hk h1 ht hi hz hsz hb hzs h0 hown h (c := c) h63 hbytes hB o.type
  exact Lib.wp_append_run w s x t t ho v (.slice p m c) hs hx _ w' hr (hK q d w' h2 h3 h4)
/-- One struct that is laid in a block of its own. -/
theorem rw_one (w : World) (t : TypeId) (x : α) : Rw k enc (w.alloc (.cells (enc x).toArray t)) (some ⟨w.heap.size, 0, none⟩) 1 [x] := by
  refine ⟨rfl, fun _ => ⟨w.heap.size, 0, rfl, fun j y hj i hi => ?_⟩⟩
  cases j with
  | zero =>
    simp only [List.getElem?_cons_zero, Option.some.injEq] at hj
    subst hj
    rw [cell_of_row _ w.heap.size _ _ t (0, 0) (heap_alloc_new w _)]
    simp
  | succ j => simp at hj
end Ra
end Go.Proofs.Ytklhapekfgcplaa
