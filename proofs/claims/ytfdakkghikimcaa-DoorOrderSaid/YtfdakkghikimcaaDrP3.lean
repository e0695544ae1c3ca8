/- A step of a range over a book's map; the best mark so far. No condition but those written. -/
import Derived.Test.YtfdakkghikimcaaDrMp
import Derived.WalkMore
namespace Go.Proofs.Ytfdakkghikimcaa
open Go.RowKit Go.Maps

namespace Dr
open Se
/-- A goal at which a walk stops. -/
def Stay (p : Prop) : Prop := p
theorem stay {p : Prop} (h : p) : Stay p := h
theorem unstay {p : Prop} (h : Stay p) : p := h
theorem below_grown {w w' : World} (h : Below w.heap.size w w') : w.grownBy w' none := ⟨h.os, h.tape, h.output, h.size, fun i hi _ => h.block i hi⟩
/-- What a step of the range tells. -/
structure Step (w w' : World) (b r n : Nat) (D : DataW Unit) (left : Lit → Bool) (cnt cnt' : Nat) (km ks : Int) (c : Bool) : Prop where
  k64 : In64 km ∧ In64 ks
  was : left (pk km ks) = true
  at_ : ∀ zd, D.atKey (pk km ks) zd = .lit (.bool c)
  goes : w'.ranges Try.prog 56 (plainElem Try.prog 4) b r n D (fun z => left z && !z.sameKey (pk km ks)) cnt'
  less : cnt' < cnt
  grown : w.grownBy w' (some r)
  size : w'.heap.size = w.heap.size
/-- A step of the range. -/
theorem next_place (w : World) {ops : Array Oper} {rest : List Oper} {o : Oper} {a : Act} {Q : Exit → Act → World → Prop}
    (hg : o.guard = none) (it : Operand) (hop : o.op = Op.next it false)
    (b r n : Nat) (D : DataW Unit) (left : Lit → Bool) (cnt : Nat) (hit : a.eval it = .pointer (some ⟨r, 0, none⟩)) (h : w.ranges Try.prog 56 (plainElem Try.prog 4) b r n D left cnt)
    (hDone : Hid (∀ kl, left kl = false) → wpList Try.prog ops Q rest (a.put o.dst (.tuple #[.bool false])) w)
    (hMore : ∀ (km ks : Int) (c : Bool) (w' : World) (cnt' : Nat), Step w w' b r n D left cnt cnt' km ks c →
      (Instr.entry (.pointer (some ⟨r, 0, none⟩))).run Try.prog w' = .ok (.tuple #[.agg #[.int .i64 km, .int .i64 ks], .bool c]) w' →
      wpList Try.prog ops Q rest (a.put o.dst (.tuple #[.bool true, .agg #[.int .i64 km, .int .i64 ks], .bool c])) w') :
    wpList Try.prog ops Q (o :: rest) a w :=
  wpList_next_ranges w hg it hop 56 law (plainElem Try.prog 4) (fun p : Int × Int => pval p.1 p.2) Value.bool
    (fun key kl hkey => by obtain ⟨m, s, rfl, _⟩ := key_inv hkey; exact ⟨(m, s), rfl⟩) (fun v y hv => by obtain ⟨c, rfl, _⟩ := bool_inv hv; exact ⟨c, rfl⟩)
    b r n D left cnt hit h (fun _ hl => hDone (Lib.hid hl)) (fun x c kl y w' cnt' hkey hlk hv hat hrg hlt hgr hsz hen => by
      obtain ⟨m, s, e1, rfl, hm, hs⟩ := key_inv hkey
      obtain ⟨xm, xs⟩ := x
      simp only [pval, Value.agg.injEq, Array.mk.injEq, List.cons.injEq, Value.int.injEq, true_and, and_true] at e1
      obtain ⟨rfl, rfl⟩ := e1
      obtain ⟨c', ec, rfl⟩ := bool_inv hv
      injection ec with ec
      subst ec
      exact hMore xm xs c w' cnt' ⟨⟨hm, hs⟩, hlk, hat, hrg, hlt, hgr, hsz⟩ hen)
/-- What has been met of some marks. -/
def met (left : Lit → Bool) (x : Rd) : Prop := left (pk x.min x.seq) = false
/-- The greatest mark met, that is not behind a minute. -/
def Best (S : List Rd) (left : Lit → Bool) (m lm ls : Int) (ob : Bool) : Prop :=
  (∃ x ∈ S, met left x ∧ x.min ≤ m ∧ lm = x.min ∧ ls = x.seq ∧ ob = opB x ∧ ∀ y ∈ S, met left y → y.min ≤ m → ¬ lt x y) ∨ (lm = 0 ∧ ls = 0 ∧ ob = false ∧ ∀ y ∈ S, met left y → m < y.min)
theorem best_start {D : DataW Unit} {S : List Rd} (h : Mp D S) (m : Int) : Best S (Maps.has D) m 0 0 false :=
  .inr ⟨rfl, rfl, rfl, fun y hy hm => by
    unfold met at hm
    rw [mp_has h hy] at hm
    cases hm⟩
theorem met_step {left : Lit → Bool} {km ks : Int} {y : Rd} (hk : In64 km ∧ In64 ks) (hy : rightM y = true) : met (fun z => left z && !z.sameKey (pk km ks)) y ↔ met left y ∨ (y.min = km ∧ y.seq = ks) := by
  have hyi := right_in hy
  unfold met
  rw [Bool.and_eq_false_iff]
  constructor
  · rintro (h | h)
    · exact .inl h
    · have h' : (pk y.min y.seq).sameKey (pk km ks) = true := by simpa using h
      exact .inr (pk_inj hyi.1 hyi.2 hk.1 hk.2 (WideAt.sameKey_eq h'))
  · rintro (h | ⟨h1, h2⟩)
    · exact .inl h
    · right
      rw [h1, h2, WideAt.sameKey_self (show WideAt.IsKeyLit (pk km ks) from trivial)]
      rfl
theorem here_step {D : DataW Unit} {S : List Rd} (h : Mp D S) {km ks : Int} {c : Bool} (hk : In64 km ∧ In64 ks) (hat : ∀ zd, D.atKey (pk km ks) zd = .lit (.bool c)) : ∃ x ∈ S, x.min = km ∧ x.seq = ks ∧ opB x = c := by
  obtain ⟨x, hx, h1, h2⟩ := h.only km ks hk.1 hk.2 (Maps.has_true_of_atKey hat)
  have h3 := h.each x hx (.lit (.bool c))
  rw [h1, h2, hat] at h3
  injection h3 with h3
  injection h3 with h3
  exact ⟨x, hx, h1, h2, h3.symm⟩
/-- A mark that is behind the minute, or ahead of the best one, changes nothing. -/
theorem best_skip {S : List Rd} {left : Lit → Bool} {m lm ls km ks : Int} {ob : Bool} (hS : Good S) (h : Best S left m lm ls ob) (hk : In64 km ∧ In64 ks) (h0 : 0 ≤ km ∧ 0 ≤ ks) (hc : m < km ∨ (km < lm ∨ km = lm ∧ ks < ls)) :
    Best S (fun z => left z && !z.sameKey (pk km ks)) m lm ls ob := by
  rcases h with ⟨x, hx, hm, hxm, rfl, rfl, ho, hall⟩ | ⟨rfl, rfl, ho, hall⟩
  · refine .inl ⟨x, hx, (met_step hk (hS.right x hx)).2 (.inl hm), hxm, rfl, rfl, ho, fun y hy hmy hym hlt => ?_⟩
    rcases (met_step hk (hS.right y hy)).1 hmy with h1 | ⟨h1, h2⟩
    · exact hall y hy h1 hym hlt
    · unfold lt at hlt
      omega
  · refine .inr ⟨rfl, rfl, ho, fun y hy hmy => ?_⟩
    rcases (met_step hk (hS.right y hy)).1 hmy with h1 | ⟨h1, h2⟩
    · exact hall y hy h1
    · omega
theorem best_take {S : List Rd} {left : Lit → Bool} {m lm ls km ks : Int} {ob c : Bool} (hS : Good S) (h : Best S left m lm ls ob) (hk : In64 km ∧ In64 ks) {x : Rd} (hx : x ∈ S) (hx1 : x.min = km) (hx2 : x.seq = ks) (hx3 : opB x = c) (hm : km ≤ m) (hc : ¬ (km < lm ∨ km = lm ∧ ks < ls)) :
    Best S (fun z => left z && !z.sameKey (pk km ks)) m km ks c := by
  refine .inl ⟨x, hx, (met_step hk (hS.right x hx)).2 (.inr ⟨hx1, hx2⟩), by omega, hx1.symm, hx2.symm, hx3.symm, fun y hy hmy hym hlt => ?_⟩
  rcases (met_step hk (hS.right y hy)).1 hmy with h1 | ⟨h1, h2⟩
  · rcases h with ⟨z, _, _, _, rfl, rfl, _, hall⟩ | ⟨_, _, _, hall⟩
    · refine hall y hy h1 hym ?_
      unfold lt at *
      omega
    · have := hall y hy h1
      omega
  · unfold lt at hlt
    omega
theorem best_end {S : List Rd} {left : Lit → Bool} {m lm ls : Int} {ob : Bool} (hS : Good S) (h : Best S left m lm ls ob) (hl : ∀ kl, left kl = false) : ob = opn S m := by
  unfold opn
  rcases lastL_spec S m with ⟨e, h0⟩ | ⟨y, e, hy, hym, hmax⟩
  · rw [e]
    rcases h with ⟨x, hx, _, hxm, _⟩ | ⟨_, _, ho, _⟩
    · have := h0 x hx
      omega
    · exact ho
  · rw [e]
    rcases h with ⟨x, hx, _, hxm, _, _, ho, hall⟩ | ⟨_, _, _, hall⟩
    · have h1 := hmax x hx hxm
      have h2 := hall y hy (hl _) hym
      have ho1 : one x y := (lt_or x y).elim (fun h => absurd h h2) (fun h => h.elim id (fun h => absurd h h1))
      rw [ho]
      obtain ⟨i, hi⟩ := List.mem_iff_getElem?.1 hx
      obtain ⟨j, hj⟩ := List.mem_iff_getElem?.1 hy
      have ha := sorted_apart hS.sorted
      rcases Nat.lt_trichotomy i j with hij | hij | hij
      · exact absurd ho1 (apart_at ha hj hi hij)
      · subst hij
        rw [hi] at hj
        rw [Option.some.inj hj]
      · exact absurd (one_comm ho1) (apart_at ha hi hj hij)
    · have := hall y hy (hl _)
      omega
end Dr
end Go.Proofs.Ytfdakkghikimcaa
