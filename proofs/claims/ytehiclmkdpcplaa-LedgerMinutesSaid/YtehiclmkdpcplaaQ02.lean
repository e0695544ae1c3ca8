/- Maps from whole numbers to blocks, as lists. No condition but those written. Series in plain words: readings, what is put, what counts, all in order. No condition but those written. Series in plain words: what hangs on the readings alone, not on their order. No condition but those written. Series in plain words: what the place in order tells. No condition but those written. Series in plain words: silence. No condition but those written. Excess in plain words: a minute's, and their sum. No condition but those written. Plain whole numbers that stop at the most: what package sat's calls are held against; no condition. -/
import Derived.Test.YtehiclmkdpcplaaQ01
import Derived.WalkMore
import Derived.Laws.IdiomRangeMap
import Derived.Maps.RangeWalk
namespace Go.Proofs.Ytehiclmkdpcplaa
open Go.RowKit Go.Maps

namespace Lg
/-- Under a number: a block. -/
structure Kq where
  k : Int
  q : Nat
def qval : Option Nat → Value
  | none => .pointer none
  | some q => .pointer (some ⟨q, 0, none⟩)
def qdat : Option Nat → DataW Unit
  | none => .nil
  | some q => .lit (.int .i64 (q : Int))
def Qf : Ms.Form (Option Nat) := ⟨qval, qdat, fun {x y} h => by
  cases x <;> cases y <;> simp [qval] at h ⊢
  exact h, fun {x y} h => by
  cases x <;> cases y <;> simp [qdat] at h ⊢
  omega⟩
/-- What a number leads to. -/
def fq (n : Int) (S : List Kq) : Option Nat := (Ms.findK Kq.k n S).map Kq.q
/-- A map that holds just these. -/
structure Mq (D : DataW Unit) (S : List Kq) : Prop where
  each : ∀ x ∈ S, ∀ z, D.atKey (.int .i64 x.k) z = qdat (some x.q)
  only : ∀ n, Maps.has D (.int .i64 n) = true → ∃ x ∈ S, x.k = n
  size : Maps.size D = S.length
theorem mq_nil : Mq (.map []) [] := ⟨fun x hx => by simp at hx, fun n h => by simp [Maps.has] at h, rfl⟩
theorem fq_none {n : Int} {S : List Kq} (h : fq n S = none) : ∀ x ∈ S, x.k ≠ n := Ms.find_none.1 (by unfold fq at h; exact Option.map_eq_none_iff.1 h)
theorem fq_some {n : Int} {S : List Kq} {q : Nat} (h : fq n S = some q) : ∃ x ∈ S, x.k = n ∧ x.q = q := by
  unfold fq at h
  obtain ⟨x, hx, rfl⟩ := Option.map_eq_some_iff.1 h
  obtain ⟨h1, h2⟩ := Ms.find_some hx
  exact ⟨x, h1, h2, rfl⟩
theorem mq_has {D : DataW Unit} {S : List Kq} (h : Mq D S) (n : Int) : Maps.has D (.int .i64 n) = (fq n S).isSome := by
  cases hf : fq n S with
  | none =>
    cases hb : Maps.has D (.int .i64 n)
    · rfl
    · obtain ⟨x, hx, e⟩ := h.only n hb
      exact absurd e (fq_none hf x hx)
  | some q =>
    obtain ⟨x, hx, e, _⟩ := fq_some hf
    rw [← e]
    exact Maps.has_true_of_atKey (h.each x hx)
theorem mq_at {D : DataW Unit} {S : List Kq} (h : Mq D S) (n : Int) : D.atKey (.int .i64 n) (qdat none) = qdat (fq n S) := by
  cases hf : fq n S with
  | none => rw [Maps.atKey_of_not_has (by rw [mq_has h, hf]; rfl)]
  | some q =>
    obtain ⟨x, hx, e, e2⟩ := fq_some hf
    rw [← e, ← e2]
    exact h.each x hx _
/-- One more at the end. -/
theorem mq_app {D : DataW Unit} {S : List Kq} (h : Mq D S) (ht : Maps.Tidy D) {x : Kq} (hn : ∀ y ∈ S, y.k ≠ x.k) : Mq (D.put (.int .i64 x.k) (qdat (some x.q))) (S ++ [x]) := by
  refine ⟨fun y hy z => ?_, fun n hh => ?_, ?_⟩
  · rcases List.mem_append.1 hy with hy | hy
    · rw [Maps.atKey_put_other (Ms.lit_ne (hn y hy))]
      exact h.each y hy z
    · rw [List.mem_singleton.1 hy]
      exact Maps.atKey_put_same ht.isMap (Ms.key_lit _) _ _
  · by_cases e : n = x.k
    · exact ⟨x, by simp, e.symm⟩
    · rw [Maps.has_put_other (Ms.lit_ne e)] at hh
      obtain ⟨y, hy, e2⟩ := h.only n hh
      exact ⟨y, List.mem_append.2 (.inl hy), e2⟩
  · have hno : Maps.has D (.int .i64 x.k) = false := by
      cases hb : Maps.has D (.int .i64 x.k)
      · rfl
      · obtain ⟨y, hy, e⟩ := h.only _ hb
        exact absurd e (hn y hy)
    rw [Maps.size_put ht, if_neg (by rw [hno]; exact Bool.false_ne_true), h.size]
    simp
set_option maxRecDepth 100000 in
/-- What a number holds: with a word on whether there is any. -/
theorem look_q {w : World} {b n : Nat} {D : DataW Unit} {S : List Kq} {t e : TypeId} (ht : Try.prog.underlying t = some (.map 3 e)) (hz : ∀ W, (zeroValue e).run Try.prog W = .ok (qval none) W) (hown : w.ownsMap Try.prog 3 (Ms.rdF Qf) b n D) (h : Mq D S) {m : Int} (hm : Ms.In64 m) (W : World) (hW : W.heap[b]? = w.heap[b]?) :
    (Instr.lookup t (.map (some b)) (.int .i64 m) true).run Try.prog W = .ok (.tuple #[qval (fq m S), .bool (fq m S).isSome]) W := by
  obtain ⟨v, ps, hrun, hv⟩ := (Ms.own_like hown hW).look_ok Ms.lawI ht (hz W) (zd := qdat none) (Ms.rd_mk (Fm := Qf) none) (Ms.key_of hm)
  obtain ⟨y, rfl, hy⟩ := Ms.rd_inv hv
  injection hy with hy _
  rw [mq_at h] at hy
  rw [hrun, mq_has h, Qf.dinj (show Qf.dat (fq m S) = Qf.dat y from hy)]
  rfl
/-- A cell that leads to nothing, or to a map of these. -/
def Tq (w : World) (B : Nat) (mo : Option Nat) (S : List Kq) : Prop :=
  (mo = none ∧ S = []) ∨ ∃ b D, mo = some b ∧ B ≤ b ∧ w.ownsMap Try.prog 3 (Ms.rdF Qf) b S.length D ∧ Mq D S
theorem tq_lt {w : World} {B : Nat} {mo : Option Nat} {S : List Kq} (h : Tq w B mo S) {k : Nat} (hk : mo = some k) : B ≤ k ∧ k < w.heap.size := by
  rcases h with ⟨e, _⟩ | ⟨b, D, e, hB, hown, _⟩
  · rw [e] at hk
    cases hk
  · rw [e] at hk
    obtain rfl := Option.some.inj hk
    exact ⟨hB, hown.lt⟩
theorem tq_turn {w w' : World} {B : Nat} {mo : Option Nat} {S : List Kq} {T : Nat → Prop} (h : Tq w B mo S) (ht : Turn T w w') (hn : ∀ k, mo = some k → ¬ T k) : Tq w' B mo S := by
  rcases h with h | ⟨b, D, e, hB, hown, hM⟩
  · exact .inl h
  · exact .inr ⟨b, D, e, hB, Ms.own_like hown (ht.block b hown.lt (hn b e)), hM⟩
/-- A map's block is none whose cells lie. -/
theorem tq_ne {w : World} {B : Nat} {mo : Option Nat} {S : List Kq} (h : Tq w B mo S) {g : Nat} {t : TypeId} {cs : Array Value} (hl : Lies w g t cs) : mo ≠ some g := by
  rcases h with ⟨e, _⟩ | ⟨b, D, e, _, ⟨es, clock, hb, _⟩, _⟩
  · rw [e]
    intro h
    cases h
  · rw [e]
    intro h
    obtain rfl := Option.some.inj h
    have e2 := Option.some.inj (Eq.trans (Eq.symm hb) hl)
    cases e2
theorem tlook_q {w : World} {B : Nat} {mo : Option Nat} {S : List Kq} {t e : TypeId} (hu : Try.prog.underlying t = some (.map 3 e)) (hz : ∀ W, (zeroValue e).run Try.prog W = .ok (qval none) W) (ht : Tq w B mo S) {m : Int} (hm : Ms.In64 m) (W : World) (hW : Below w.heap.size w W) :
    (Instr.lookup t (.map mo) (.int .i64 m) true).run Try.prog W = .ok (.tuple #[qval (fq m S), .bool (fq m S).isSome]) W := by
  rcases ht with ⟨rfl, rfl⟩ | ⟨b, D, rfl, _, hown, hM⟩
  · rw [Maps.look_nil true Ms.lawI hu (hz W) (Ms.key_of hm)]
    rfl
  · exact look_q hu hz hown hM hm W (hW.block b hown.lt)
theorem belowgrown {w w' : World} (h : Below w.heap.size w w') : w.grownBy w' none := ⟨h.os, h.tape, h.output, h.size, fun i hi _ => h.block i hi⟩
theorem strike_other {left : Lit → Bool} {a k : Int} (h : a ≠ k) : (left (.int .i64 a) && !(Lit.int .i64 a).sameKey (.int .i64 k)) = left (.int .i64 a) := by
  rw [Maps.sameKey_ne (Ms.lit_ne h)]
  simp
theorem strike_self {left : Lit → Bool} {k : Int} : (left (.int .i64 k) && !(Lit.int .i64 k).sameKey (.int .i64 k)) = false := by
  rw [WideAt.sameKey_self (Ms.key_lit k)]
  simp
/-- What a step of the range tells. -/
structure QStep (w w' : World) (b r n : Nat) (D : DataW Unit) (left : Lit → Bool) (cnt cnt' : Nat) (km : Int) (x : Option Nat) : Prop where
  was : left (.int .i64 km) = true
  at_ : ∀ zd, D.atKey (.int .i64 km) zd = qdat x
  goes : w'.ranges Try.prog 3 (Ms.rdF Qf) b r n D (fun z => left z && !z.sameKey (.int .i64 km)) cnt'
  less : cnt' < cnt
  grown : w.grownBy w' (some r)
  size : w'.heap.size = w.heap.size
theorem next_q (w : World) {ops : Array Oper} {rest : List Oper} {o : Oper} {a : Act} {Q : Exit → Act → World → Prop}
    (hg : o.guard = none) (it : Operand) (hop : o.op = Op.next it false)
    (b r n : Nat) (D : DataW Unit) (left : Lit → Bool) (cnt : Nat) (hit : a.eval it = .pointer (some ⟨r, 0, none⟩)) (h : w.ranges Try.prog 3 (Ms.rdF Qf) b r n D left cnt)
    (hDone : Hid (∀ kl, left kl = false) → wpList Try.prog ops Q rest (a.put o.dst (.tuple #[.bool false])) w)
    (hMore : ∀ (km : Int) (x : Option Nat) (w' : World) (cnt' : Nat), QStep w w' b r n D left cnt cnt' km x →
      (Instr.entry (.pointer (some ⟨r, 0, none⟩))).run Try.prog w' = .ok (.tuple #[.int .i64 km, qval x]) w' →
      wpList Try.prog ops Q rest (a.put o.dst (.tuple #[.bool true, .int .i64 km, qval x])) w') :
    wpList Try.prog ops Q (o :: rest) a w :=
  wpList_next_ranges w hg it hop 3 Ms.lawI (Ms.rdF Qf) (Value.int .i64) qval
    (fun key kl hkey => by obtain ⟨m, e, _⟩ := Maps.keyOf_i64 Try.underlying3 hkey; exact ⟨m, e⟩) (fun v y hv => by obtain ⟨x, rfl, _⟩ := Ms.rd_inv hv; exact ⟨x, rfl⟩)
    b r n D left cnt hit h (fun _ hl => hDone (Lib.hid hl)) (fun x c kl y w' cnt' hkey hlk hv hat hrg hlt hgr hsz hen => by
      obtain ⟨m, e1, rfl, _⟩ := Maps.keyOf_i64 Try.underlying3 hkey
      injection e1 with _ e1
      subst e1
      obtain ⟨c', ec, rfl⟩ := Ms.rd_inv hv
      have := Qf.inj (show Qf.enc c = Qf.enc c' from ec)
      subst this
      exact hMore x c w' cnt' ⟨hlk, hat, hrg, hlt, hgr, hsz⟩ hen)
/-- What came is one of these. -/
theorem here_q {D : DataW Unit} {S : List Kq} (h : Mq D S) {km : Int} {x : Option Nat} (hat : ∀ zd, D.atKey (.int .i64 km) zd = qdat x) : ∃ y ∈ S, y.k = km ∧ x = some y.q := by
  obtain ⟨y, hy, e⟩ := h.only km (Maps.has_true_of_atKey hat)
  have h3 := h.each y hy (.lit (.bool true))
  rw [e, hat] at h3
  exact ⟨y, hy, e, Qf.dinj (show Qf.dat x = Qf.dat (some y.q) from h3)⟩
end Lg
end Go.Proofs.Ytehiclmkdpcplaa

namespace Go.Proofs.Ytehiclmkdpcplaa.Se

/-- A reading. -/
structure Rd where
  min : Int
  seq : Int
  ten : Int
instance : DecidableEq Rd := fun a b =>
  if h : a.min = b.min ∧ a.seq = b.seq ∧ a.ten = b.ten then isTrue (by
    cases a
    cases b
    simp only at h
    rw [h.1, h.2.1, h.2.2])
  else isFalse (by
    rintro rfl
    exact h ⟨rfl, rfl, rfl⟩)
def zero : Rd := ⟨0, 0, 0⟩
def tenB (t : Int) : Bool := decide (-1099511627776 ≤ t ∧ t ≤ 1099511627776)
def rightB (r : Rd) : Bool := decide (-1099511627776 ≤ r.ten ∧ r.ten ≤ 1099511627776 ∧ 0 ≤ r.min ∧ r.min ≤ 1048575 ∧ 0 ≤ r.seq ∧ r.seq ≤ 65535)
def mayB (worst gap : Int) : Bool := decide (-1099511627776 ≤ worst ∧ worst ≤ 1099511627776 ∧ 0 ≤ gap ∧ gap ≤ 1048575)
theorem right_of {r : Rd} (h : rightB r = true) : -1099511627776 ≤ r.ten ∧ r.ten ≤ 1099511627776 ∧ 0 ≤ r.min ∧ r.min ≤ 1048575 ∧ 0 ≤ r.seq ∧ r.seq ≤ 65535 := by simpa [rightB] using h
theorem may_of {w g : Int} (h : mayB w g = true) : -1099511627776 ≤ w ∧ w ≤ 1099511627776 ∧ 0 ≤ g ∧ g ≤ 1048575 := by simpa [mayB] using h
/-- One is ahead of another one. -/
def lt (a b : Rd) : Prop := a.min < b.min ∨ a.min = b.min ∧ a.seq < b.seq
instance (a b : Rd) : Decidable (lt a b) := inferInstanceAs (Decidable (_ ∨ _))
def ltB (a b : Rd) : Bool := decide (lt a b)
/-- They stand at one place. -/
def one (a b : Rd) : Prop := a.min = b.min ∧ a.seq = b.seq
instance (a b : Rd) : Decidable (one a b) := inferInstanceAs (Decidable (_ ∧ _))
theorem lt_irrefl (a : Rd) : ¬ lt a a := by unfold lt; omega
theorem lt_trans {a b c : Rd} (h : lt a b) (k : lt b c) : lt a c := by unfold lt at *; omega
theorem lt_asymm {a b : Rd} (h : lt a b) : ¬ lt b a := by unfold lt at *; omega
theorem lt_or (a b : Rd) : lt a b ∨ one a b ∨ lt b a := by unfold lt one; omega
theorem not_lt_one {a b : Rd} (h : one a b) : ¬ lt a b := by unfold lt one at *; omega
theorem one_comm {a b : Rd} (h : one a b) : one b a := by unfold one at *; omega
theorem one_lt {a b c : Rd} (h : one a b) : lt b c ↔ lt a c := by unfold lt one at *; omega
theorem lt_one {a b c : Rd} (h : one a b) : lt c b ↔ lt c a := by unfold lt one at *; omega

/-- What becomes of readings, as they came, when one is put: whether anything changed, and they. -/
def put : List Rd → Rd → Bool × List Rd
  | [], r => (true, [r])
  | x :: l, r => if one x r then (if r.ten ≤ x.ten then (false, x :: l) else (true, ⟨x.min, x.seq, r.ten⟩ :: l)) else ((put l r).1, x :: (put l r).2)
/-- No two at one place. -/
def Apart (l : List Rd) : Prop := l.Pairwise fun a b => ¬ one a b
theorem put_from (l : List Rd) (r : Rd) : ∀ i, i ≤ l.length → (∀ j x, j < i → l[j]? = some x → ¬ one x r) → put l r = ((put (l.drop i) r).1, l.take i ++ (put (l.drop i) r).2) := by
  induction l with
  | nil =>
    intro i hi _
    simp
  | cons x l ih =>
    intro i hi h
    cases i with
    | zero => simp
    | succ i =>
      have h0 : ¬ one x r := h 0 x (by omega) rfl
      have h1 := ih i (by simpa using hi) (fun j y hj hy => h (j + 1) y (by omega) (by simpa using hy))
      have h2 := (Prod.ext_iff.1 h1).1
      have h3 := (Prod.ext_iff.1 h1).2
      simp only at h2 h3
      rw [put, if_neg h0, List.drop_succ_cons, List.take_succ_cons, List.cons_append, ← h2, ← h3]
theorem put_here {l : List Rd} {r x : Rd} {i : Nat} (hx : l[i]? = some x) (ho : one x r) (h : ∀ j y, j < i → l[j]? = some y → ¬ one y r) :
    put l r = if r.ten ≤ x.ten then (false, l) else (true, l.set i ⟨x.min, x.seq, r.ten⟩) := by
  have hi : i < l.length := (List.getElem?_eq_some_iff.1 hx).1
  have hx' : l[i] = x := (List.getElem?_eq_some_iff.1 hx).2
  rw [put_from l r i (Nat.le_of_lt hi) h, List.drop_eq_getElem_cons hi, hx', put, if_pos ho]
  split
  · have : l.take i ++ x :: l.drop (i + 1) = l := by
      rw [← hx', ← List.drop_eq_getElem_cons hi, List.take_append_drop]
    simp [this]
  · rw [List.set_eq_take_append_cons_drop, if_pos hi]
theorem put_end {l : List Rd} {r : Rd} (h : ∀ j y, j < l.length → l[j]? = some y → ¬ one y r) : put l r = (true, l ++ [r]) := by
  rw [put_from l r l.length (Nat.le_refl _) h, List.drop_length, List.take_length, put]
theorem put_right {l : List Rd} {r : Rd} (hl : ∀ x ∈ l, rightB x = true) (hr : rightB r = true) : ∀ x ∈ (put l r).2, rightB x = true := by
  induction l with
  | nil =>
    intro x hx
    simp only [put, List.mem_singleton] at hx
    rw [hx]
    exact hr
  | cons y l ih =>
    have hy := hl y List.mem_cons_self
    have hl' : ∀ x ∈ l, rightB x = true := fun x hx => hl x (List.mem_cons_of_mem _ hx)
    intro x hx
    unfold put at hx
    split at hx
    · split at hx
      · exact hl x hx
      · rcases List.mem_cons.1 hx with rfl | hx
        · have h1 := right_of hy
          have h2 := right_of hr
          simp only [rightB, decide_eq_true_eq]
          omega
        · exact hl' x hx
    · rcases List.mem_cons.1 hx with rfl | hx
      · exact hy
      · exact ih hl' x hx
theorem put_len (l : List Rd) (r : Rd) : (put l r).2.length ≤ l.length + 1 := by
  induction l with
  | nil => simp [put]
  | cons y l ih =>
    unfold put
    split
    · split <;> simp
    · simpa using ih
/-- Who is there when one was put. -/
theorem put_mem {l : List Rd} (ha : Apart l) (r x : Rd) : x ∈ (put l r).2 ↔ (x ∈ l ∧ ¬ one x r) ∨ (∃ y, y ∈ l ∧ one y r ∧ x = ⟨r.min, r.seq, max y.ten r.ten⟩) ∨ ((∀ y ∈ l, ¬ one y r) ∧ x = r) := by
  induction l with
  | nil => simp [put]
  | cons y l ih =>
    have ha' := List.pairwise_cons.1 ha
    unfold put
    by_cases ho : one y r
    · rw [if_pos ho]
      have hl : ∀ z ∈ l, ¬ one z r := fun z hz hzr => ha'.1 z hz (by unfold one at *; omega)
      split
      · rename_i hle
        have hm : (⟨r.min, r.seq, max y.ten r.ten⟩ : Rd) = y := by
          obtain ⟨a, b, c⟩ := y
          simp only [one] at ho
          simp only at hle
          simp only [Rd.mk.injEq]
          omega
        rw [List.mem_cons]
        constructor
        · rintro (rfl | hx)
          · exact .inr (.inl ⟨_, List.mem_cons_self, ho, hm.symm⟩)
          · exact .inl ⟨.inr hx, hl x hx⟩
        · rintro (⟨hx, hn⟩ | ⟨z, hz, hzr, rfl⟩ | ⟨hn, _⟩)
          · exact hx
          · rcases List.mem_cons.1 hz with rfl | hz
            · exact .inl hm
            · exact absurd hzr (hl z hz)
          · exact absurd ho (hn y List.mem_cons_self)
      · rename_i hle
        have hm : (⟨r.min, r.seq, max y.ten r.ten⟩ : Rd) = ⟨y.min, y.seq, r.ten⟩ := by
          simp only [one] at ho
          simp only [Rd.mk.injEq]
          omega
        rw [List.mem_cons]
        constructor
        · rintro (rfl | hx)
          · exact .inr (.inl ⟨y, List.mem_cons_self, ho, hm.symm⟩)
          · exact .inl ⟨List.mem_cons_of_mem _ hx, hl x hx⟩
        · rintro (⟨hx, hn⟩ | ⟨z, hz, hzr, rfl⟩ | ⟨hn, _⟩)
          · rcases List.mem_cons.1 hx with rfl | hx
            · exact absurd ho hn
            · exact .inr hx
          · rcases List.mem_cons.1 hz with rfl | hz
            · exact .inl hm
            · exact absurd hzr (hl z hz)
          · exact absurd ho (hn y List.mem_cons_self)
    · rw [if_neg ho, List.mem_cons, ih ha'.2]
      constructor
      · rintro (rfl | ⟨hx, hn⟩ | ⟨z, hz, hzr, rfl⟩ | ⟨hn, rfl⟩)
        · exact .inl ⟨List.mem_cons_self, ho⟩
        · exact .inl ⟨List.mem_cons_of_mem _ hx, hn⟩
        · exact .inr (.inl ⟨z, List.mem_cons_of_mem _ hz, hzr, rfl⟩)
        · refine .inr (.inr ⟨fun z hz => ?_, rfl⟩)
          rcases List.mem_cons.1 hz with rfl | hz
          · exact ho
          · exact hn z hz
      · rintro (⟨hx, hn⟩ | ⟨z, hz, hzr, rfl⟩ | ⟨hn, rfl⟩)
        · rcases List.mem_cons.1 hx with rfl | hx
          · exact .inl rfl
          · exact .inr (.inl ⟨hx, hn⟩)
        · rcases List.mem_cons.1 hz with rfl | hz
          · exact absurd hzr ho
          · exact .inr (.inr (.inl ⟨z, hz, hzr, rfl⟩))
        · exact .inr (.inr (.inr ⟨fun z hz => hn z (List.mem_cons_of_mem _ hz), rfl⟩))
theorem put_apart {l : List Rd} (ha : Apart l) (r : Rd) : Apart (put l r).2 := by
  induction l with
  | nil => simp [put, Apart]
  | cons y l ih =>
    have ha' := List.pairwise_cons.1 ha
    unfold put
    by_cases ho : one y r
    · rw [if_pos ho]
      split
      · exact ha
      · exact List.pairwise_cons.2 ⟨fun z hz h => ha'.1 z hz h, ha'.2⟩
    · rw [if_neg ho]
      refine List.pairwise_cons.2 ⟨fun z hz => ?_, ih ha'.2⟩
      rcases (put_mem ha'.2 r z).1 hz with ⟨hz, _⟩ | ⟨u, hu, hur, rfl⟩ | ⟨_, rfl⟩
      · exact ha'.1 z hz
      · exact ho
      · exact ho
/-- The reading that counts, so far: behind some of them. -/
def lastStep (m : Int) (o : Option Rd) (x : Rd) : Option Rd :=
  if m < x.min then o else match o with
  | none => some x
  | some y => if lt y x then some x else some y
def lastL (l : List Rd) (m : Int) : Option Rd := l.foldl (lastStep m) none
theorem lastL_snoc (l : List Rd) (x : Rd) (m : Int) : lastL (l ++ [x]) m = lastStep m (lastL l m) x := by simp [lastL]
/-- What it is: the greatest one of those that are not above the minute. -/
theorem lastL_spec (l : List Rd) (m : Int) : (lastL l m = none ∧ ∀ x ∈ l, m < x.min) ∨ ∃ y, lastL l m = some y ∧ y ∈ l ∧ y.min ≤ m ∧ ∀ x ∈ l, x.min ≤ m → ¬ lt y x := by
  suffices H : ∀ (n : Nat) (k : List Rd), k.length = n → (lastL k m = none ∧ ∀ x ∈ k, m < x.min) ∨ ∃ y, lastL k m = some y ∧ y ∈ k ∧ y.min ≤ m ∧ ∀ x ∈ k, x.min ≤ m → ¬ lt y x from H _ l rfl
  intro n
  induction n with
  | zero =>
    intro k hk
    obtain rfl : k = [] := List.eq_nil_of_length_eq_zero hk
    exact .inl ⟨rfl, by simp⟩
  | succ n ih =>
    intro k hk
    obtain ⟨k', x, rfl⟩ : ∃ k' x, k = k' ++ [x] := by
      have hne : k ≠ [] := by
        rintro rfl
        simp at hk
      exact ⟨k.dropLast, k.getLast hne, (List.dropLast_concat_getLast hne).symm⟩
    have hk' : k'.length = n := by simpa using hk
    rw [lastL_snoc]
    unfold lastStep
    by_cases hx : m < x.min
    · rw [if_pos hx]
      rcases ih k' hk' with ⟨h1, h2⟩ | ⟨y, h1, h2, h3, h4⟩
      · exact .inl ⟨h1, fun z hz => by
          rcases List.mem_append.1 hz with hz | hz
          · exact h2 z hz
          · rw [List.mem_singleton.1 hz]
            exact hx⟩
      · exact .inr ⟨y, h1, List.mem_append_left _ h2, h3, fun z hz hzm => by
          rcases List.mem_append.1 hz with hz | hz
          · exact h4 z hz hzm
          · rw [List.mem_singleton.1 hz] at hzm
            omega⟩
    · rw [if_neg hx]
      rcases ih k' hk' with ⟨h1, h2⟩ | ⟨y, h1, h2, h3, h4⟩
      · rw [h1]
        exact .inr ⟨x, rfl, by simp, by omega, fun z hz hzm => by
          rcases List.mem_append.1 hz with hz | hz
          · have := h2 z hz
            omega
          · rw [List.mem_singleton.1 hz]
            exact lt_irrefl x⟩
      · rw [h1]
        simp only
        by_cases hlt : lt y x
        · rw [if_pos hlt]
          exact .inr ⟨x, rfl, by simp, by omega, fun z hz hzm => by
            rcases List.mem_append.1 hz with hz | hz
            · intro hxz
              exact h4 z hz hzm (lt_trans hlt hxz)
            · rw [List.mem_singleton.1 hz]
              exact lt_irrefl x⟩
        · rw [if_neg hlt]
          exact .inr ⟨y, rfl, List.mem_append_left _ h2, h3, fun z hz hzm => by
            rcases List.mem_append.1 hz with hz | hz
            · exact h4 z hz hzm
            · rw [List.mem_singleton.1 hz]
              exact hlt⟩
/-- The reading that counts at a minute, if it is not too long ago. -/
def cntOf (gap m : Int) : Option Rd → Option Rd
  | none => none
  | some y => if gap < m - y.min then none else some y
def cnt (gap : Int) (l : List Rd) (m : Int) : Option Rd := cntOf gap m (lastL l m)
def air (worst gap : Int) (l : List Rd) (m : Int) : Int := match cnt gap l m with
  | none => worst
  | some y => y.ten
/-- The least Minute above a minute, so far; -1: none. -/
def nextStep (m : Int) (n : Int) (x : Rd) : Int := if m < x.min ∧ (n < 0 ∨ x.min < n) then x.min else n
def nextL (l : List Rd) (m : Int) : Int := l.foldl (nextStep m) (-1)
theorem nextL_snoc (l : List Rd) (x : Rd) (m : Int) : nextL (l ++ [x]) m = nextStep m (nextL l m) x := by simp [nextL]
def next (gap : Int) (l : List Rd) (m : Int) : Int := match cnt gap l m with
  | none => nextL l m
  | some y => if nextL l m < 0 ∨ y.min + gap + 1 < nextL l m then y.min + gap + 1 else nextL l m
/-- In order. -/
def Sorted (s : List Rd) : Prop := s.Pairwise lt
def ins (r : Rd) : List Rd → List Rd
  | [] => [r]
  | x :: l => if lt r x then r :: x :: l else x :: ins r l
def sortL (l : List Rd) : List Rd := l.foldr ins []
theorem mem_ins (r x : Rd) (l : List Rd) : x ∈ ins r l ↔ x = r ∨ x ∈ l := by
  induction l with
  | nil => simp [ins]
  | cons y l ih =>
    unfold ins
    split
    · simp
    · simp only [List.mem_cons, ih]
      constructor
      · rintro (h | h | h)
        · exact .inr (.inl h)
        · exact .inl h
        · exact .inr (.inr h)
      · rintro (h | h | h)
        · exact .inr (.inl h)
        · exact .inl h
        · exact .inr (.inr h)
theorem len_ins (r : Rd) (l : List Rd) : (ins r l).length = l.length + 1 := by
  induction l with
  | nil => rfl
  | cons y l ih =>
    unfold ins
    split
    · simp
    · simp [ih]
theorem sorted_ins {r : Rd} {l : List Rd} (h : Sorted l) (hr : ∀ x ∈ l, ¬ one x r) : Sorted (ins r l) := by
  induction l with
  | nil => simp [ins, Sorted]
  | cons y l ih =>
    have h' := List.pairwise_cons.1 h
    unfold ins
    by_cases hlt : lt r y
    · rw [if_pos hlt]
      refine List.pairwise_cons.2 ⟨fun z hz => ?_, h⟩
      rcases List.mem_cons.1 hz with rfl | hz
      · exact hlt
      · exact lt_trans hlt (h'.1 z hz)
    · rw [if_neg hlt]
      have hy : lt y r := by
        rcases lt_or r y with h1 | h1 | h1
        · exact absurd h1 hlt
        · exact absurd (one_comm h1) (hr y List.mem_cons_self)
        · exact h1
      refine List.pairwise_cons.2 ⟨fun z hz => ?_, ih h'.2 (fun x hx => hr x (List.mem_cons_of_mem _ hx))⟩
      rcases (mem_ins r z l).1 hz with rfl | hz
      · exact hy
      · exact h'.1 z hz
theorem mem_sort (l : List Rd) (x : Rd) : x ∈ sortL l ↔ x ∈ l := by
  induction l with
  | nil => simp [sortL]
  | cons y l ih =>
    show x ∈ ins y (sortL l) ↔ _
    rw [mem_ins, ih, List.mem_cons]
theorem len_sort (l : List Rd) : (sortL l).length = l.length := by
  induction l with
  | nil => rfl
  | cons y l ih =>
    show (ins y (sortL l)).length = _
    rw [len_ins, ih, List.length_cons]
theorem sorted_sort {l : List Rd} (h : Apart l) : Sorted (sortL l) := by
  induction l with
  | nil => simp [sortL, Sorted]
  | cons y l ih =>
    have h' := List.pairwise_cons.1 h
    exact sorted_ins (ih h'.2) (fun x hx hxy => h'.1 x ((mem_sort l x).1 hx) (one_comm hxy))
theorem sorted_apart {l : List Rd} (h : Sorted l) : Apart l := h.imp fun h1 h2 => not_lt_one h2 h1
theorem sorted_eq {s : List Rd} : ∀ {t : List Rd}, Sorted s → Sorted t → (∀ x, x ∈ s ↔ x ∈ t) → s = t := by
  induction s with
  | nil =>
    intro t _ _ h
    match t with
    | [] => rfl
    | y :: t => exact absurd ((h y).2 List.mem_cons_self) (by simp)
  | cons x s ih =>
    intro t hs ht h
    match t, ht, h with
    | [], _, h => exact absurd ((h x).1 List.mem_cons_self) (by simp)
    | y :: t, ht, h =>
      have hs' := List.pairwise_cons.1 hs
      have ht' := List.pairwise_cons.1 ht
      have e : x = y := by
        rcases List.mem_cons.1 ((h x).1 List.mem_cons_self) with e | hx
        · exact e
        · rcases List.mem_cons.1 ((h y).2 List.mem_cons_self) with e | hy
          · exact e.symm
          · exact absurd (hs'.1 y hy) (lt_asymm (ht'.1 x hx))
      subst e
      congr 1
      refine ih hs'.2 ht'.2 fun z => ⟨fun hz => ?_, fun hz => ?_⟩
      · rcases List.mem_cons.1 ((h z).1 (List.mem_cons_of_mem _ hz)) with rfl | hz'
        · exact absurd (hs'.1 z hz) (lt_irrefl z)
        · exact hz'
      · rcases List.mem_cons.1 ((h z).2 (List.mem_cons_of_mem _ hz)) with rfl | hz'
        · exact absurd (ht'.1 z hz) (lt_irrefl z)
        · exact hz'
theorem sorted_at {s : List Rd} (h : Sorted s) {i j : Nat} {x y : Rd} (hx : s[i]? = some x) (hy : s[j]? = some y) (hij : i < j) : lt x y := by
  obtain ⟨hi, rfl⟩ := List.getElem?_eq_some_iff.1 hx
  obtain ⟨hj, rfl⟩ := List.getElem?_eq_some_iff.1 hy
  exact List.pairwise_iff_getElem.1 h i j hi hj hij
/-- What isn't told yet, when k are. -/
def Cand (s : List Rd) (k : Nat) (x : Rd) : Prop := ∀ z, 0 < k → s[k - 1]? = some z → lt z x
theorem cand_at {s : List Rd} (h : Sorted s) {k j : Nat} {x : Rd} (hx : s[j]? = some x) (hk : k ≤ s.length) : Cand s k x ↔ k ≤ j := by
  constructor
  · intro hc
    by_cases h0 : 0 < k
    · have hlt := hc _ h0 (List.getElem?_eq_getElem (show k - 1 < s.length by omega))
      have hg := List.getElem?_eq_getElem (show k - 1 < s.length by omega)
      by_cases hkj : k ≤ j
      · exact hkj
      · by_cases he : j = k - 1
        · subst he
          rw [hg] at hx
          cases hx
          exact absurd hlt (lt_irrefl _)
        · exact absurd hlt (lt_asymm (sorted_at h hx hg (by omega)))
    · omega
  · intro hkj z h0 hz
    exact sorted_at h hz hx (by omega)
/-- The first one that isn't told yet. -/
theorem cand_first {s : List Rd} (h : Sorted s) {k : Nat} {y : Rd} (hk : k < s.length) (hy : y ∈ s) (hc : Cand s k y) (hm : ∀ x ∈ s, Cand s k x → ¬ lt x y) : s[k]? = some y := by
  obtain ⟨j, hj⟩ := List.mem_iff_getElem?.1 hy
  have hkj := (cand_at h hj (Nat.le_of_lt hk)).1 hc
  by_cases he : k = j
  · subst he
    exact hj
  · have hg := List.getElem?_eq_getElem hk
    exact absurd (sorted_at h hg hj (by omega)) (hm _ (List.getElem_mem hk) ((cand_at h hg (Nat.le_of_lt hk)).2 (Nat.le_refl _)))
/-- Whether anything changed, the error, and what there is then. -/
def putR (L : List Rd) (r : Rd) : Bool × Nat × List Rd := if rightB r then ((put L r).1, 0, (put L r).2) else (false, 1, L)
end Go.Proofs.Ytehiclmkdpcplaa.Se

namespace Go.Proofs.Ytehiclmkdpcplaa.Se

theorem one_refl (a : Rd) : one a a := ⟨rfl, rfl⟩
theorem apart_one {l : List Rd} (h : Apart l) {x y : Rd} (hx : x ∈ l) (hy : y ∈ l) (ho : one x y) : x = y := by
  induction l with
  | nil => simp at hx
  | cons z l ih =>
    have h' := List.pairwise_cons.1 h
    rcases List.mem_cons.1 hx with e | hx'
    · rcases List.mem_cons.1 hy with e2 | hy'
      · rw [e, e2]
      · rw [e] at ho
        exact absurd ho (h'.1 y hy')
    · rcases List.mem_cons.1 hy with e2 | hy'
      · rw [e2] at ho
        exact absurd (one_comm ho) (h'.1 x hx')
      · exact ih h'.2 hx' hy'
/-- Whether anything changed. -/
theorem put_fst {l : List Rd} (r : Rd) : Apart l → ((put l r).1 = true ↔ ∀ y ∈ l, one y r → y.ten < r.ten) := by
  induction l with
  | nil =>
    intro _
    simp [put]
  | cons x l ih =>
    intro ha
    have h' := List.pairwise_cons.1 ha
    unfold put
    by_cases ho : one x r
    · rw [if_pos ho]
      have hl : ∀ z ∈ l, ¬ one z r := fun z hz hzr => h'.1 z hz (by unfold one at *; omega)
      split
      · rename_i hle
        constructor
        · intro h
          cases h
        · intro h
          have := h x List.mem_cons_self ho
          omega
      · rename_i hle
        simp only [true_iff]
        intro y hy hyr
        rcases List.mem_cons.1 hy with rfl | hy
        · omega
        · exact absurd hyr (hl y hy)
    · rw [if_neg ho]
      simp only
      rw [ih h'.2]
      constructor
      · intro h y hy hyr
        rcases List.mem_cons.1 hy with rfl | hy
        · exact absurd hyr ho
        · exact h y hy hyr
      · exact fun h y hy => h y (List.mem_cons_of_mem _ hy)
/-- Two lists of the same readings. -/
def Like (s l : List Rd) : Prop := ∀ x, x ∈ s ↔ x ∈ l
theorem like_fst {s l : List Rd} (hs : Apart s) (hl : Apart l) (h : Like s l) (r : Rd) : (put s r).1 = (put l r).1 := by
  rw [Bool.eq_iff_iff, put_fst r hs, put_fst r hl]
  exact ⟨fun k y hy => k y ((h y).2 hy), fun k y hy => k y ((h y).1 hy)⟩
theorem like_put {s l : List Rd} (hs : Apart s) (hl : Apart l) (h : Like s l) (r : Rd) : Like (put s r).2 (put l r).2 := by
  intro x
  rw [put_mem hs, put_mem hl, h x]
  constructor
  · rintro (h1 | ⟨y, h1, h2⟩ | ⟨h1, h2⟩)
    · exact .inl h1
    · exact .inr (.inl ⟨y, (h y).1 h1, h2⟩)
    · exact .inr (.inr ⟨fun y hy => h1 y ((h y).2 hy), h2⟩)
  · rintro (h1 | ⟨y, h1, h2⟩ | ⟨h1, h2⟩)
    · exact .inl h1
    · exact .inr (.inl ⟨y, (h y).2 h1, h2⟩)
    · exact .inr (.inr ⟨fun y hy => h1 y ((h y).1 hy), h2⟩)
theorem like_last {s l : List Rd} (hl : Apart l) (h : Like s l) (m : Int) : lastL s m = lastL l m := by
  rcases lastL_spec s m with ⟨h1, h2⟩ | ⟨y, h1, h2, h3, h4⟩
  · rcases lastL_spec l m with ⟨k1, _⟩ | ⟨z, _, k2, k3, _⟩
    · rw [h1, k1]
    · have := h2 z ((h z).2 k2)
      omega
  · rcases lastL_spec l m with ⟨_, k2⟩ | ⟨z, k1, k2, k3, k4⟩
    · have := k2 y ((h y).1 h2)
      omega
    · rw [h1, k1]
      congr 1
      refine apart_one hl ((h y).1 h2) k2 ?_
      rcases lt_or y z with h5 | h5 | h5
      · exact absurd h5 (h4 z ((h z).2 k2) k3)
      · exact h5
      · exact absurd h5 (k4 y ((h y).1 h2) h3)
theorem like_cnt {s l : List Rd} (hl : Apart l) (h : Like s l) (ga m : Int) : cnt ga s m = cnt ga l m := by
  unfold cnt
  rw [like_last hl h]
theorem like_air {s l : List Rd} (hl : Apart l) (h : Like s l) (wo ga m : Int) : air wo ga s m = air wo ga l m := by
  unfold air
  rw [like_cnt hl h]
/-- The least Minute above a minute. -/
theorem nextL_spec (l : List Rd) (m : Int) (h0 : ∀ x ∈ l, 0 ≤ x.min) : (nextL l m = -1 ∧ ∀ x ∈ l, x.min ≤ m) ∨ (m < nextL l m ∧ 0 ≤ nextL l m ∧ (∃ y ∈ l, y.min = nextL l m) ∧ ∀ x ∈ l, m < x.min → nextL l m ≤ x.min) := by
  suffices H : ∀ (n : Nat) (k : List Rd), k.length = n → (∀ x ∈ k, 0 ≤ x.min) → (nextL k m = -1 ∧ ∀ x ∈ k, x.min ≤ m) ∨ (m < nextL k m ∧ 0 ≤ nextL k m ∧ (∃ y ∈ k, y.min = nextL k m) ∧ ∀ x ∈ k, m < x.min → nextL k m ≤ x.min) from H _ l rfl h0
  intro n
  induction n with
  | zero =>
    intro k hk _
    obtain rfl : k = [] := List.eq_nil_of_length_eq_zero hk
    exact .inl ⟨rfl, by simp⟩
  | succ n ih =>
    intro k hk h0
    obtain ⟨k', x, rfl⟩ : ∃ k' x, k = k' ++ [x] := by
      have hne : k ≠ [] := by
        rintro rfl
        simp at hk
      exact ⟨k.dropLast, k.getLast hne, (List.dropLast_concat_getLast hne).symm⟩
    have hk' : k'.length = n := by simpa using hk
    have hx := h0 x (by simp)
    have IH := ih k' hk' (fun z hz => h0 z (List.mem_append_left _ hz))
    rw [nextL_snoc]
    generalize nextL k' m = u at *
    unfold nextStep
    by_cases hc : m < x.min ∧ (u < 0 ∨ x.min < u)
    · rw [if_pos hc]
      refine .inr ⟨hc.1, hx, ⟨x, by simp, rfl⟩, fun z hz hzm => ?_⟩
      rcases List.mem_append.1 hz with hz | hz
      · rcases IH with ⟨h1, h2⟩ | ⟨h1, h2, _, h4⟩
        · have := h2 z hz
          omega
        · have := h4 z hz hzm
          omega
      · rw [List.mem_singleton.1 hz]
        exact Int.le_refl _
    · rw [if_neg hc]
      rcases IH with ⟨h1, h2⟩ | ⟨h1, h2, ⟨y, hy, h3⟩, h4⟩
      · refine .inl ⟨h1, fun z hz => ?_⟩
        rcases List.mem_append.1 hz with hz | hz
        · exact h2 z hz
        · rw [List.mem_singleton.1 hz]
          omega
      · refine .inr ⟨h1, h2, ⟨y, List.mem_append_left _ hy, h3⟩, fun z hz hzm => ?_⟩
        rcases List.mem_append.1 hz with hz | hz
        · exact h4 z hz hzm
        · rw [List.mem_singleton.1 hz] at hzm ⊢
          omega
theorem like_nextL {s l : List Rd} (h : Like s l) (h0 : ∀ x ∈ l, 0 ≤ x.min) (m : Int) : nextL s m = nextL l m := by
  rcases nextL_spec s m (fun x hx => h0 x ((h x).1 hx)) with ⟨h1, h2⟩ | ⟨h1, _, ⟨y, hy, h3⟩, h4⟩
  · rcases nextL_spec l m h0 with ⟨k1, _⟩ | ⟨k1, _, ⟨z, hz, k3⟩, _⟩
    · rw [h1, k1]
    · have := h2 z ((h z).2 hz)
      omega
  · rcases nextL_spec l m h0 with ⟨_, k2⟩ | ⟨k1, _, ⟨z, hz, k3⟩, k4⟩
    · have := k2 y ((h y).1 hy)
      omega
    · have a := h4 z ((h z).2 hz) (by omega)
      have b := k4 y ((h y).1 hy) (by omega)
      omega
theorem like_next {s l : List Rd} (hl : Apart l) (h : Like s l) (h0 : ∀ x ∈ l, 0 ≤ x.min) (ga m : Int) : next ga s m = next ga l m := by
  unfold next
  rw [like_cnt hl h, like_nextL h h0]
theorem like_sort {s l : List Rd} (hs : Apart s) (hl : Apart l) (h : Like s l) : sortL s = sortL l :=
  sorted_eq (sorted_sort hs) (sorted_sort hl) fun x => by rw [mem_sort, mem_sort, h x]
theorem sort_self {s : List Rd} (h : Sorted s) : sortL s = s :=
  sorted_eq (sorted_sort (sorted_apart h)) h fun x => mem_sort s x
theorem like_sorted (l : List Rd) : Like (sortL l) l := fun x => mem_sort l x
/-- What all readings lead to, one by one. -/
def puts (l : List Rd) : List Rd := l.foldl (fun L r => (putR L r).2.2) []
theorem puts_snoc (l : List Rd) (r : Rd) : puts (l ++ [r]) = (putR (puts l) r).2.2 := by simp [puts]
theorem putR_yes (L : List Rd) {r : Rd} (h : rightB r = true) : (putR L r).2.2 = (put L r).2 := by
  unfold putR
  rw [if_pos h]
theorem putR_no (L : List Rd) {r : Rd} (h : ¬ rightB r = true) : (putR L r).2.2 = L := by
  unfold putR
  rw [if_neg h]
/-- The readings that are there at last: of each place the greatest. -/
theorem puts_spec (l : List Rd) : Apart (puts l) ∧ (∀ x, x ∈ puts l ↔ rightB x = true ∧ x ∈ l ∧ ∀ y ∈ l, rightB y = true → one y x → y.ten ≤ x.ten) ∧ (∀ z ∈ l, rightB z = true → ∃ y ∈ puts l, one y z ∧ z.ten ≤ y.ten) := by
  suffices H : ∀ (n : Nat) (k : List Rd), k.length = n → Apart (puts k) ∧ (∀ x, x ∈ puts k ↔ rightB x = true ∧ x ∈ k ∧ ∀ y ∈ k, rightB y = true → one y x → y.ten ≤ x.ten) ∧ (∀ z ∈ k, rightB z = true → ∃ y ∈ puts k, one y z ∧ z.ten ≤ y.ten) from H _ l rfl
  intro n
  induction n with
  | zero =>
    intro k hk
    obtain rfl : k = [] := List.eq_nil_of_length_eq_zero hk
    exact ⟨by simp [puts, Apart], by simp [puts], by simp⟩
  | succ n ih =>
    intro k hk
    obtain ⟨k', r, rfl⟩ : ∃ k' x, k = k' ++ [x] := by
      have hne : k ≠ [] := by
        rintro rfl
        simp at hk
      exact ⟨k.dropLast, k.getLast hne, (List.dropLast_concat_getLast hne).symm⟩
    have hk' : k'.length = n := by simpa using hk
    obtain ⟨hA, hM, hE⟩ := ih k' hk'
    rw [puts_snoc]
    by_cases hr : rightB r = true
    · rw [putR_yes _ hr]
      refine ⟨put_apart hA r, fun x => ?_, fun z hz hzr => ?_⟩
      · rw [put_mem hA]
        constructor
        · rintro (⟨hx, hn⟩ | ⟨y, hy, hyr, rfl⟩ | ⟨hn, rfl⟩)
          · obtain ⟨a, b, c⟩ := (hM x).1 hx
            refine ⟨a, List.mem_append_left _ b, fun y hy hyr hyx => ?_⟩
            rcases List.mem_append.1 hy with hy | hy
            · exact c y hy hyr hyx
            · rw [List.mem_singleton.1 hy] at hyx
              exact absurd (one_comm hyx) hn
          · obtain ⟨a, b, c⟩ := (hM y).1 hy
            have h1 := right_of a
            have h2 := right_of hr
            have hyr' := hyr
            refine ⟨?_, ?_, fun u hu hur hux => ?_⟩
            · simp only [rightB, decide_eq_true_eq]
              omega
            · by_cases hle : y.ten ≤ r.ten
              · rw [show max y.ten r.ten = r.ten by omega]
                exact List.mem_append_right _ (by simp)
              · rw [show (⟨r.min, r.seq, max y.ten r.ten⟩ : Rd) = y by
                  obtain ⟨ym, ys, yt⟩ := y
                  simp only [one] at hyr'
                  simp only at hle
                  simp only [Rd.mk.injEq]
                  omega]
                exact List.mem_append_left _ b
            · rcases List.mem_append.1 hu with hu | hu
              · have hux' : one u y := by
                  simp only [one] at *
                  omega
                have := c u hu hur hux'
                simp only
                omega
              · rw [List.mem_singleton.1 hu]
                simp only
                omega
          · refine ⟨hr, List.mem_append_right _ (by simp), fun u hu hur hux => ?_⟩
            rcases List.mem_append.1 hu with hu | hu
            · obtain ⟨y, hy, hyu, _⟩ := hE u hu hur
              exact absurd (show one y x by simp only [one] at *; omega) (hn y hy)
            · rw [List.mem_singleton.1 hu]
              exact Int.le_refl _
        · rintro ⟨a, b, c⟩
          by_cases ho : one x r
          · by_cases hex : ∃ y ∈ puts k', one y r
            · obtain ⟨y, hy, hyr⟩ := hex
              obtain ⟨a', b', c'⟩ := (hM y).1 hy
              refine .inr (.inl ⟨y, hy, hyr, ?_⟩)
              have h1 := c y (List.mem_append_left _ b') a' (by simp only [one] at *; omega)
              have h2 := c r (List.mem_append_right _ (by simp)) hr (one_comm ho)
              have h3 : x.ten ≤ max y.ten r.ten := by
                rcases List.mem_append.1 b with b | b
                · have := c' x b a (by simp only [one] at *; omega)
                  omega
                · rw [List.mem_singleton.1 b]
                  omega
              obtain ⟨xm, xs, xt⟩ := x
              simp only [one] at ho
              simp only at h1 h2 h3
              simp only [Rd.mk.injEq]
              omega
            · have hn : ∀ y ∈ puts k', ¬ one y r := fun y hy hyr => hex ⟨y, hy, hyr⟩
              refine .inr (.inr ⟨hn, ?_⟩)
              rcases List.mem_append.1 b with b | b
              · obtain ⟨y, hy, hyx, _⟩ := hE x b a
                exact absurd (show one y r by simp only [one] at *; omega) (hn y hy)
              · exact List.mem_singleton.1 b
          · refine .inl ⟨(hM x).2 ⟨a, ?_, fun y hy => c y (List.mem_append_left _ hy)⟩, ho⟩
            rcases List.mem_append.1 b with b | b
            · exact b
            · rw [List.mem_singleton.1 b] at ho
              exact absurd (one_refl r) ho
      · rcases List.mem_append.1 hz with hz | hz
        · obtain ⟨y, hy, hyz, hle⟩ := hE z hz hzr
          by_cases ho : one y r
          · refine ⟨⟨r.min, r.seq, max y.ten r.ten⟩, (put_mem hA r _).2 (.inr (.inl ⟨y, hy, ho, rfl⟩)), ?_, ?_⟩
            · simp only [one] at *
              omega
            · simp only
              omega
          · exact ⟨y, (put_mem hA r _).2 (.inl ⟨hy, ho⟩), hyz, hle⟩
        · rw [List.mem_singleton.1 hz]
          by_cases hex : ∃ y ∈ puts k', one y r
          · obtain ⟨y, hy, hyr⟩ := hex
            refine ⟨⟨r.min, r.seq, max y.ten r.ten⟩, (put_mem hA r _).2 (.inr (.inl ⟨y, hy, hyr, rfl⟩)), ⟨rfl, rfl⟩, ?_⟩
            simp only
            omega
          · exact ⟨r, (put_mem hA r _).2 (.inr (.inr ⟨fun y hy hyr => hex ⟨y, hy, hyr⟩, rfl⟩)), one_refl r, Int.le_refl _⟩
    · rw [putR_no _ hr]
      refine ⟨hA, fun x => ?_, fun z hz hzr => ?_⟩
      · rw [hM x]
        constructor
        · rintro ⟨a, b, c⟩
          refine ⟨a, List.mem_append_left _ b, fun y hy hyr => ?_⟩
          rcases List.mem_append.1 hy with hy | hy
          · exact c y hy hyr
          · rw [List.mem_singleton.1 hy] at hyr
            exact absurd hyr hr
        · rintro ⟨a, b, c⟩
          refine ⟨a, ?_, fun y hy => c y (List.mem_append_left _ hy)⟩
          rcases List.mem_append.1 b with b | b
          · exact b
          · rw [List.mem_singleton.1 b] at a
            exact absurd a hr
      · rcases List.mem_append.1 hz with hz | hz
        · exact hE z hz hzr
        · rw [List.mem_singleton.1 hz] at hzr
          exact absurd hzr hr
/-- In any order. -/
theorem puts_like {l m : List Rd} (h : ∀ x, x ∈ l ↔ x ∈ m) : Like (puts l) (puts m) := by
  intro x
  rw [(puts_spec l).2.1, (puts_spec m).2.1]
  constructor
  · exact fun ⟨a, b, c⟩ => ⟨a, (h x).1 b, fun y hy => c y ((h y).2 hy)⟩
  · exact fun ⟨a, b, c⟩ => ⟨a, (h x).2 b, fun y hy => c y ((h y).1 hy)⟩
theorem puts_right (l : List Rd) : ∀ x ∈ puts l, rightB x = true := fun x hx => (((puts_spec l).2.1 x).1 hx).1
theorem puts_len (l : List Rd) : (puts l).length ≤ l.length := by
  suffices H : ∀ (n : Nat) (k : List Rd), k.length = n → (puts k).length ≤ n by
    exact H _ l rfl
  intro n
  induction n with
  | zero =>
    intro k hk
    obtain rfl : k = [] := List.eq_nil_of_length_eq_zero hk
    simp [puts]
  | succ n ih =>
    intro k hk
    obtain ⟨k', x, rfl⟩ : ∃ k' x, k = k' ++ [x] := by
      have hne : k ≠ [] := by
        rintro rfl
        simp at hk
      exact ⟨k.dropLast, k.getLast hne, (List.dropLast_concat_getLast hne).symm⟩
    have hk' : k'.length = n := by simpa using hk
    have := ih k' hk'
    rw [puts_snoc]
    by_cases hr : rightB x = true
    · rw [putR_yes _ hr]
      have := put_len (puts k') x
      omega
    · rw [putR_no _ hr]
      omega
end Go.Proofs.Ytehiclmkdpcplaa.Se

namespace Go.Proofs.Ytehiclmkdpcplaa.Se

/-- How many readings are not above a minute. -/
def Upto (S : List Rd) (m : Int) (n : Nat) : Prop := n ≤ S.length ∧ ∀ (j : Nat) (x : Rd), S[j]? = some x → (j < n → x.min ≤ m) ∧ (n ≤ j → m < x.min)
theorem upto_last {S : List Rd} (hs : Sorted S) {m : Int} {n : Nat} (h : Upto S m n) : lastL S m = if n = 0 then none else S[n - 1]? := by
  rcases lastL_spec S m with ⟨h1, h2⟩ | ⟨y, h1, h2, h3, h4⟩
  · rw [h1]
    by_cases hn : n = 0
    · rw [if_pos hn]
    · have hlt : n - 1 < S.length := by have := h.1; omega
      have hx := List.getElem?_eq_getElem hlt
      have := (h.2 _ _ hx).1 (by omega)
      have := h2 _ (List.mem_of_getElem? hx)
      omega
  · obtain ⟨j, hj⟩ := List.mem_iff_getElem?.1 h2
    have hjn : j < n := by
      by_cases hjn : j < n
      · exact hjn
      · have := (h.2 _ _ hj).2 (by omega)
        omega
    rw [h1, if_neg (by omega)]
    by_cases he : j = n - 1
    · rw [← he, hj]
    · have hlt : n - 1 < S.length := by have := h.1; omega
      have hx := List.getElem?_eq_getElem hlt
      exact absurd (sorted_at hs hj hx (by omega)) (h4 _ (List.mem_of_getElem? hx) ((h.2 _ _ hx).1 (by omega)))
theorem upto_none {S : List Rd} (hs : Sorted S) {m : Int} (h : Upto S m 0) (ga : Int) : cnt ga S m = none := by
  unfold cnt
  rw [upto_last hs h, if_pos rfl]
  rfl
theorem upto_some {S : List Rd} (hs : Sorted S) {m : Int} {n : Nat} (h : Upto S m (n + 1)) {y : Rd} (hy : S[n]? = some y) (ga : Int) : cnt ga S m = if ga < m - y.min then none else some y := by
  unfold cnt
  rw [upto_last hs h, if_neg (by omega), Nat.add_sub_cancel, hy]
  rfl
theorem upto_next {S : List Rd} (hs : Sorted S) (h0 : ∀ x ∈ S, 0 ≤ x.min) {m : Int} {n : Nat} (h : Upto S m n) {y : Rd} (hy : S[n]? = some y) : nextL S m = y.min := by
  have hym := (h.2 _ _ hy).2 (Nat.le_refl _)
  rcases nextL_spec S m h0 with ⟨_, h2⟩ | ⟨h1, _, ⟨z, hz, h3⟩, h4⟩
  · have := h2 y (List.mem_of_getElem? hy)
    omega
  · obtain ⟨j, hj⟩ := List.mem_iff_getElem?.1 hz
    have := h4 y (List.mem_of_getElem? hy) hym
    by_cases hjn : j < n
    · have := (h.2 _ _ hj).1 hjn
      omega
    · by_cases he : j = n
      · subst he
        rw [hj] at hy
        cases hy
        omega
      · have := sorted_at hs hy hj (by omega)
        unfold lt at this
        omega
theorem upto_last_no {S : List Rd} (h0 : ∀ x ∈ S, 0 ≤ x.min) {m : Int} (h : Upto S m S.length) : nextL S m = -1 := by
  rcases nextL_spec S m h0 with ⟨h1, _⟩ | ⟨h1, _, ⟨z, hz, h3⟩, _⟩
  · exact h1
  · obtain ⟨j, hj⟩ := List.mem_iff_getElem?.1 hz
    have := (h.2 _ _ hj).1 (List.getElem?_eq_some_iff.1 hj).1
    omega
/-- What putting does to readings in order. -/
theorem put_there {S : List Rd} (hs : Sorted S) {r x : Rd} {i : Nat} (hx : S[i]? = some x) (ho : one x r) : put S r = if r.ten ≤ x.ten then (false, S) else (true, S.set i r) := by
  rw [put_here hx ho (fun j y hj hy hyo => by
    have := sorted_at hs hy hx hj
    unfold lt one at *
    omega)]
  congr 2
  obtain ⟨a, b, c⟩ := r
  simp only [one] at ho
  rw [ho.1, ho.2]
theorem put_new {S : List Rd} {r : Rd} (h : ∀ x ∈ S, ¬ one x r) : put S r = (true, S ++ [r]) := put_end fun _ _ _ hy => h _ (List.mem_of_getElem? hy)
theorem sorted_insert {S : List Rd} (hs : Sorted S) {r : Rd} {i : Nat} (h : ∀ (j : Nat) (x : Rd), S[j]? = some x → (j < i → lt x r) ∧ (i ≤ j → lt r x)) : Sorted (S.take i ++ r :: S.drop i) := by
  have hsp : S = S.take i ++ S.drop i := (List.take_append_drop i S).symm
  have hs' : Sorted (S.take i ++ S.drop i) := by rw [← hsp]; exact hs
  have ha := List.pairwise_append.1 hs'
  have h1 : ∀ x ∈ S.take i, lt x r := fun x hx => by
    obtain ⟨j, hj⟩ := List.mem_iff_getElem?.1 hx
    rw [List.getElem?_take] at hj
    split at hj
    · exact (h j x hj).1 ‹_›
    · cases hj
  have h2 : ∀ x ∈ S.drop i, lt r x := fun x hx => by
    obtain ⟨j, hj⟩ := List.mem_iff_getElem?.1 hx
    rw [List.getElem?_drop] at hj
    exact (h _ x hj).2 (by omega)
  refine List.pairwise_append.2 ⟨ha.1, List.pairwise_cons.2 ⟨h2, ha.2.1⟩, fun x hx y hy => ?_⟩
  rcases List.mem_cons.1 hy with rfl | hy
  · exact h1 x hx
  · exact ha.2.2 x hx y hy
theorem sort_insert {S : List Rd} (hs : Sorted S) {r : Rd} {i : Nat} (h : ∀ (j : Nat) (x : Rd), S[j]? = some x → (j < i → lt x r) ∧ (i ≤ j → lt r x)) : sortL (S ++ [r]) = S.take i ++ r :: S.drop i := by
  have hn : ∀ x ∈ S, ¬ one x r := fun x hx ho => by
    obtain ⟨j, hj⟩ := List.mem_iff_getElem?.1 hx
    have := h j x hj
    by_cases hji : j < i
    · exact not_lt_one ho (this.1 hji)
    · exact not_lt_one (one_comm ho) (this.2 (by omega))
  have hA : Apart (S ++ [r]) := by
    have := put_apart (sorted_apart hs) r
    rw [put_new hn] at this
    exact this
  refine sorted_eq (sorted_sort hA) (sorted_insert hs h) fun x => ?_
  rw [mem_sort]
  have hsp : x ∈ S ↔ x ∈ S.take i ∨ x ∈ S.drop i := by
    rw [← List.mem_append, List.take_append_drop]
  simp only [List.mem_append, List.mem_cons, List.not_mem_nil, or_false, hsp]
  constructor
  · rintro ((h | h) | h)
    · exact .inl h
    · exact .inr (.inr h)
    · exact .inr (.inl h)
  · rintro (h | h | h)
    · exact .inl (.inl h)
    · exact .inr h
    · exact .inl (.inr h)
theorem sort_set {S : List Rd} (hs : Sorted S) {r x : Rd} {i : Nat} (hx : S[i]? = some x) (ho : one x r) : sortL (S.set i r) = S.set i r := by
  refine sort_self ?_
  unfold Sorted
  rw [List.pairwise_iff_getElem]
  intro a b ha hb hab
  have hi := (List.getElem?_eq_some_iff.1 hx).1
  have hxe := (List.getElem?_eq_some_iff.1 hx).2
  rw [List.length_set] at ha hb
  rw [List.getElem_set, List.getElem_set]
  have key := List.pairwise_iff_getElem.1 hs a b ha hb hab
  split
  · rename_i e
    subst e
    rw [if_neg (by omega)]
    rw [hxe] at key
    exact (one_lt (one_comm ho)).1 key
  · split
    · rename_i _ e
      subst e
      rw [hxe] at key
      exact (lt_one (one_comm ho)).1 key
    · exact key
end Go.Proofs.Ytehiclmkdpcplaa.Se

namespace Go.Proofs.Ytehiclmkdpcplaa.Se

theorem cnt_some {ga m : Int} {l : List Rd} {y : Rd} (h : cnt ga l m = some y) : y ∈ l ∧ y.min ≤ m ∧ m - y.min ≤ ga := by
  unfold cnt at h
  rcases lastL_spec l m with ⟨h1, _⟩ | ⟨z, h1, h2, h3, _⟩
  · rw [h1] at h
    cases h
  · rw [h1] at h
    simp only [cntOf] at h
    split at h
    · cases h
    · cases h
      exact ⟨h2, h3, by omega⟩
/-- The air is the worst, or some reading's. -/
theorem air_or (wo ga m : Int) (l : List Rd) : air wo ga l m = wo ∨ ∃ x ∈ l, x.ten = air wo ga l m := by
  unfold air
  rcases h : cnt ga l m with _ | y
  · exact .inl rfl
  · exact .inr ⟨y, (cnt_some h).1, rfl⟩
theorem next_gt {ga m : Int} {l : List Rd} (h0 : ∀ x ∈ l, 0 ≤ x.min) (h : 0 ≤ next ga l m) : m < next ga l m := by
  have hs := nextL_spec l m h0
  unfold next at h ⊢
  rcases hc : cnt ga l m with _ | y
  · rw [hc] at h
    simp only at h ⊢
    rcases hs with ⟨h1, _⟩ | ⟨h1, _⟩ <;> omega
  · rw [hc] at h
    have hy := cnt_some hc
    simp only at h ⊢
    split
    · omega
    · rcases hs with ⟨h1, _⟩ | ⟨h1, _⟩ <;> omega
theorem next_no {wo ga m : Int} {l : List Rd} (h0 : ∀ x ∈ l, 0 ≤ x.min) (h : next ga l m < 0) : air wo ga l m = wo := by
  unfold next at h
  unfold air
  rcases hc : cnt ga l m with _ | y
  · rfl
  · rw [hc] at h
    have hy := cnt_some hc
    have := h0 y hy.1
    simp only at h
    split at h <;> omega
theorem last_same {m f : Int} {l : List Rd} (hf : 0 ≤ f) (h : ∀ x ∈ l, m < x.min → m + f < x.min) : lastL l (m + f) = lastL l m := by
  suffices H : ∀ (o : Option Rd), l.foldl (lastStep (m + f)) o = l.foldl (lastStep m) o from H none
  induction l with
  | nil => exact fun _ => rfl
  | cons x l ih =>
    intro o
    have e : lastStep (m + f) o x = lastStep m o x := by
      unfold lastStep
      have := h x List.mem_cons_self
      by_cases hx : m < x.min
      · rw [if_pos hx, if_pos (this hx)]
      · rw [if_neg hx, if_neg (by omega)]
    rw [List.foldl_cons, List.foldl_cons, e]
    exact ih (fun y hy => h y (List.mem_cons_of_mem _ hy)) _
/-- Up to the next one the air is the same. -/
theorem air_same {wo ga m f : Int} {l : List Rd} (h0 : ∀ x ∈ l, 0 ≤ x.min) (hf : 0 ≤ f) (hn : next ga l m < 0 ∨ m + f < next ga l m) : air wo ga l (m + f) = air wo ga l m := by
  have hs := nextL_spec l m h0
  have hno : ∀ x ∈ l, m < x.min → m + f < x.min := by
    intro x hx hxm
    rcases hs with ⟨_, h2⟩ | ⟨h1, h2, _, h4⟩
    · have := h2 x hx
      omega
    · have := h4 x hx hxm
      unfold next at hn
      rcases hc : cnt ga l m with _ | y
      · rw [hc] at hn
        simp only at hn
        omega
      · rw [hc] at hn
        have hy := cnt_some hc
        have := h0 y hy.1
        simp only at hn
        split at hn <;> omega
  have hl := last_same hf hno
  unfold air cnt
  rw [hl]
  rcases hc : lastL l m with _ | y
  · rfl
  · simp only [cntOf]
    by_cases h1 : ga < m - y.min
    · rw [if_pos h1, if_pos (by omega)]
    · rw [if_neg h1, if_neg ?_]
      have hcnt : cnt ga l m = some y := by
        unfold cnt
        rw [hc]
        simp only [cntOf]
        rw [if_neg h1]
      unfold next at hn
      rw [hcnt] at hn
      have hy := cnt_some hcnt
      have := h0 y hy.1
      simp only at hn
      rcases hs with ⟨h2, _⟩ | ⟨h2, h3, _⟩
      · rw [if_pos (by omega)] at hn
        omega
      · split at hn <;> omega
/-- More than GAP behind all of them it is the worst. -/
theorem air_far {wo ga m t : Int} {l : List Rd} (h : ∀ x ∈ l, x.min ≤ t) (hm : t + ga < m) : air wo ga l m = wo := by
  unfold air
  rcases hc : cnt ga l m with _ | y
  · rfl
  · have hy := cnt_some hc
    have := h y hy.1
    omega
theorem sorted_last {s : List Rd} (h : Sorted s) {y : Rd} (hy : s[s.length - 1]? = some y) : ∀ x ∈ s, x.min ≤ y.min := by
  intro x hx
  obtain ⟨i, hi⟩ := List.mem_iff_getElem?.1 hx
  have hil := (List.getElem?_eq_some_iff.1 hi).1
  by_cases he : i = s.length - 1
  · subst he
    rw [hi] at hy
    cases hy
    exact Int.le_refl _
  · have := sorted_at h hi hy (by omega)
    unfold lt at this
    omega
end Go.Proofs.Ytehiclmkdpcplaa.Se

namespace Go.Proofs.Ytehiclmkdpcplaa.Ex
open Se

/-- A minute's excess. -/
def exc (wo ga lim : Int) (L : List Rd) (m : Int) : Int := if m < 0 ∨ 1048575 < m then 0 else max 0 (air wo ga L m - lim)
/-- The sum of k minutes from one on. -/
def run (f : Int → Int) (a : Int) : Nat → Int
  | 0 => 0
  | k + 1 => run f a k + f (a + k)
theorem run_add (f : Int → Int) (a : Int) (j k : Nat) : run f a (j + k) = run f a j + run f (a + j) k := by
  induction k with
  | zero => simp [run]
  | succ k ih =>
    rw [← Nat.add_assoc, run, run, ih, Int.natCast_add, Int.add_assoc, Int.add_assoc]
theorem run_nn {f : Int → Int} (h : ∀ m, 0 ≤ f m) (a : Int) (k : Nat) : 0 ≤ run f a k := by
  induction k with
  | zero => exact Int.le_refl _
  | succ k ih =>
    have := h (a + k)
    rw [run]
    omega
theorem run_le {f : Int → Int} {c : Int} (h : ∀ m, f m ≤ c) (a : Int) (k : Nat) : run f a k ≤ c * k := by
  induction k with
  | zero => simp [run]
  | succ k ih =>
    have := h (a + k)
    rw [run, Int.natCast_add, Int.mul_add]
    omega
theorem run_mono {f g : Int → Int} (h : ∀ m, f m ≤ g m) (a : Int) (k : Nat) : run f a k ≤ run g a k := by
  induction k with
  | zero => exact Int.le_refl _
  | succ k ih =>
    have := h (a + k)
    rw [run, run]
    omega
theorem run_same {f : Int → Int} {a c : Int} {k : Nat} (h : ∀ j : Nat, j < k → f (a + j) = c) : run f a k = c * k := by
  induction k with
  | zero => simp [run]
  | succ k ih =>
    rw [run, ih (fun j hj => h j (by omega)), h k (by omega), Int.natCast_add, Int.mul_add]
    omega
theorem run_congr {f g : Int → Int} {a : Int} {k : Nat} (h : ∀ j : Nat, j < k → f (a + j) = g (a + j)) : run f a k = run g a k := by
  induction k with
  | zero => rfl
  | succ k ih =>
    rw [run, run, ih (fun j hj => h j (by omega)), h k (by omega)]
/-- The sum from a minute up to another one. -/
def tot (wo ga lim : Int) (L : List Rd) (a b : Int) : Int := run (exc wo ga lim L) (max a 0) (min b 1048576 - max a 0).toNat
theorem exc_nn (wo ga lim : Int) (L : List Rd) (m : Int) : 0 ≤ exc wo ga lim L m := by
  unfold exc
  split <;> omega
theorem air_bd {wo ga : Int} {L : List Rd} (hm : mayB wo ga = true) (hr : ∀ x ∈ L, rightB x = true) (m : Int) : -1099511627776 ≤ air wo ga L m ∧ air wo ga L m ≤ 1099511627776 := by
  have h := may_of hm
  rcases air_or wo ga m L with h1 | ⟨x, hx, h1⟩
  · omega
  · have := right_of (hr x hx)
    omega
theorem exc_le {wo ga lim : Int} {L : List Rd} (hm : mayB wo ga = true) (hr : ∀ x ∈ L, rightB x = true) (hl : tenB lim = true) (m : Int) : exc wo ga lim L m ≤ 2199023255552 := by
  have h := air_bd hm hr m
  have hl' : -1099511627776 ≤ lim ∧ lim ≤ 1099511627776 := by simpa [tenB] using hl
  unfold exc
  split <;> omega
theorem tot_nn (wo ga lim : Int) (L : List Rd) (a b : Int) : 0 ≤ tot wo ga lim L a b := run_nn (exc_nn wo ga lim L) _ _
theorem run_bd {wo ga lim : Int} {L : List Rd} (hm : mayB wo ga = true) (hr : ∀ x ∈ L, rightB x = true) (hl : tenB lim = true) (a : Int) (k : Nat) (hk : k ≤ 1048576) : 0 ≤ run (exc wo ga lim L) a k ∧ run (exc wo ga lim L) a k ≤ 2305843009213693952 := by
  refine ⟨run_nn (exc_nn wo ga lim L) _ _, ?_⟩
  have h1 := run_le (exc_le hm hr hl) a k
  have h2 : (2199023255552 : Int) * (k : Int) ≤ 2199023255552 * 1048576 := Int.mul_le_mul_of_nonneg_left (by omega) (by decide)
  omega
theorem tot_bd {wo ga lim : Int} {L : List Rd} (hm : mayB wo ga = true) (hr : ∀ x ∈ L, rightB x = true) (hl : tenB lim = true) (a b : Int) : 0 ≤ tot wo ga lim L a b ∧ tot wo ga lim L a b ≤ 2305843009213693952 :=
  run_bd hm hr hl _ _ (by omega)
theorem tot_none {wo ga lim : Int} {L : List Rd} {a b : Int} (h : b ≤ a ∨ b ≤ 0 ∨ 1048576 ≤ a) : tot wo ga lim L a b = 0 := by
  unfold tot
  rw [show (min b 1048576 - max a 0).toNat = 0 by omega]
  rfl
/-- Added. -/
theorem tot_add (wo ga lim : Int) (L : List Rd) {a b c : Int} (h1 : a ≤ b) (h2 : b ≤ c) : tot wo ga lim L a c = tot wo ga lim L a b + tot wo ga lim L b c := by
  by_cases h0 : b ≤ 0
  · rw [tot_none (b := b) (.inr (.inl h0)), Int.zero_add]
    unfold tot
    rw [show max a 0 = 0 by omega, show max b 0 = 0 by omega]
  · by_cases h3 : 1048576 ≤ b
    · rw [tot_none (a := b) (.inr (.inr h3)), Int.add_zero]
      unfold tot
      rw [show min c 1048576 = 1048576 by omega, show min b 1048576 = 1048576 by omega]
    · unfold tot
      by_cases h4 : a ≤ 1048576
      · rw [show (min c 1048576 - max a 0).toNat = (min b 1048576 - max a 0).toNat + (min c 1048576 - max b 0).toNat by omega, run_add]
        congr 2
        omega
      · omega
/-- Over a higher limit it is not greater. -/
theorem exc_lim {lim lim2 : Int} (h : lim ≤ lim2) (wo ga : Int) (L : List Rd) (m : Int) : exc wo ga lim2 L m ≤ exc wo ga lim L m := by
  unfold exc
  split <;> omega
theorem tot_lim {lim lim2 : Int} (h : lim ≤ lim2) (wo ga : Int) (L : List Rd) (a b : Int) : tot wo ga lim2 L a b ≤ tot wo ga lim L a b := run_mono (exc_lim h wo ga L) _ _
/-- The same readings have the same sums. -/
theorem tot_like {S L : List Rd} (hl : Apart L) (h : Like S L) (wo ga lim a b : Int) : tot wo ga lim S a b = tot wo ga lim L a b := by
  have e : exc wo ga lim S = exc wo ga lim L := by
    funext m
    unfold exc
    rw [like_air hl h]
  unfold tot
  rw [e]
/-- A run of minutes up to the next one: the air is the same. -/
theorem exc_run {wo ga lim m : Int} {L : List Rd} (h0 : ∀ x ∈ L, 0 ≤ x.min) (hm0 : 0 ≤ m) {k : Nat} (hk : m + k ≤ 1048576) (hn : next ga L m < 0 ∨ m + k ≤ next ga L m) : run (exc wo ga lim L) m k = max 0 (air wo ga L m - lim) * k := by
  refine run_same fun j hj => ?_
  unfold exc
  rw [if_neg (by omega), air_same h0 (by omega) (by omega)]
/-- Readings at the same places, the one's not less warm than the other one's. -/
def Warm (S T : List Rd) : Prop := (∀ z ∈ S, ∃ z' ∈ T, z'.min = z.min ∧ z'.seq = z.seq ∧ z.ten ≤ z'.ten) ∧ (∀ z' ∈ T, ∃ z ∈ S, z'.min = z.min ∧ z'.seq = z.seq ∧ z.ten ≤ z'.ten)
theorem air_warm {wo ga : Int} {S T : List Rd} (hA : Apart S) (h : Warm S T) (m : Int) : air wo ga S m ≤ air wo ga T m := by
  unfold air cnt
  rcases lastL_spec S m with ⟨h1, h2⟩ | ⟨y, h1, h2, h3, h4⟩
  · rcases lastL_spec T m with ⟨k1, _⟩ | ⟨z', _, k2, k3, _⟩
    · rw [h1, k1]
      exact Int.le_refl _
    · obtain ⟨z, hz, e1, _, _⟩ := h.2 z' k2
      have := h2 z hz
      omega
  · rcases lastL_spec T m with ⟨_, k2⟩ | ⟨z', k1, k2, k3, k4⟩
    · obtain ⟨y', hy', e1, _, _⟩ := h.1 y h2
      have := k2 y' hy'
      omega
    · obtain ⟨z, hz, e1, e2, e3⟩ := h.2 z' k2
      obtain ⟨y', hy', f1, f2, f3⟩ := h.1 y h2
      have g1 := h4 z hz (by omega)
      have g2 := k4 y' hy' (by omega)
      have ho : one y z := by
        unfold lt at g1 g2
        unfold one
        omega
      have e := apart_one hA h2 hz ho
      subst e
      rw [h1, k1]
      simp only [cntOf]
      by_cases hg : ga < m - y.min
      · rw [if_pos hg, if_pos (by omega)]
        exact Int.le_refl _
      · rw [if_neg hg, if_neg (by omega)]
        exact e3
theorem tot_warm {wo ga : Int} {S T : List Rd} (hA : Apart S) (h : Warm S T) (lim a b : Int) : tot wo ga lim S a b ≤ tot wo ga lim T a b := by
  refine run_mono (fun m => ?_) _ _
  have := air_warm (wo := wo) (ga := ga) hA h m
  unfold exc
  split <;> omega
theorem warm_put {S : List Rd} (hs : Sorted S) {x : Rd} {i : Nat} (hx : S[i]? = some x) {t : Int} : Warm S (put S ⟨x.min, x.seq, t⟩).2 := by
  have hxm := List.mem_of_getElem? hx
  refine ⟨fun z hz => ?_, fun z' hz' => ?_⟩
  · by_cases ho : one z ⟨x.min, x.seq, t⟩
    · refine ⟨⟨x.min, x.seq, max z.ten t⟩, (put_mem (sorted_apart hs) _ _).2 (.inr (.inl ⟨z, hz, ho, rfl⟩)), ?_, ?_, ?_⟩
      · exact ho.1.symm
      · exact ho.2.symm
      · simp only
        omega
    · exact ⟨z, (put_mem (sorted_apart hs) _ _).2 (.inl ⟨hz, ho⟩), rfl, rfl, Int.le_refl _⟩
  · rcases (put_mem (sorted_apart hs) _ _).1 hz' with ⟨h1, _⟩ | ⟨y, hy, hyo, e⟩ | ⟨h1, _⟩
    · exact ⟨z', h1, rfl, rfl, Int.le_refl _⟩
    · subst e
      refine ⟨y, hy, hyo.1.symm, hyo.2.symm, ?_⟩
      simp only
      omega
    · exact absurd ⟨rfl, rfl⟩ (h1 x hxm)
end Go.Proofs.Ytehiclmkdpcplaa.Ex

namespace Go.Proofs.Ytehiclmkdpcplaa
namespace St
namespace St
/-- A number, fitted. -/
def fit (n : Int) : Int := if n < 0 then 0 else if 4611686018427387904 < n then 4611686018427387904 else n
/-- The lesser of a number and the most. -/
def cap (n : Int) : Int := if 4611686018427387904 < n then 4611686018427387904 else n
/-- All numbers, fitted, added. -/
def sum : List Int → Int
  | [] => 0
  | a :: r => fit a + sum r

theorem fit_bd (n : Int) : 0 ≤ fit n ∧ fit n ≤ 4611686018427387904 := by unfold fit; repeat' split <;> omega
theorem fit_neg {n : Int} (h : n < 0) : fit n = 0 := by unfold fit; rw [if_pos h]
theorem fit_big {n : Int} (h : 4611686018427387904 < n) : fit n = 4611686018427387904 := by unfold fit; rw [if_neg (by omega), if_pos h]
theorem fit_mid {n : Int} (h : 0 ≤ n) (k : n ≤ 4611686018427387904) : fit n = n := by unfold fit; rw [if_neg (by omega), if_neg (by omega)]
theorem fit_cap {n : Int} (h : 0 ≤ n) : fit n = cap n := by unfold fit cap; rw [if_neg (by omega)]
theorem fit_fit (n : Int) : fit (fit n) = fit n := fit_mid (fit_bd n).1 (fit_bd n).2
theorem cap_bd {n : Int} (h : 0 ≤ n) : 0 ≤ cap n ∧ cap n ≤ 4611686018427387904 := by unfold cap; split <;> omega
theorem cap_big {n : Int} (h : 4611686018427387904 ≤ n) : cap n = 4611686018427387904 := by unfold cap; split <;> omega
theorem cap_mid {n : Int} (k : n ≤ 4611686018427387904) : cap n = n := by unfold cap; rw [if_neg (by omega)]
theorem cap_cap_add (a b : Int) (h : 0 ≤ b) : cap (cap a + b) = cap (a + b) := by unfold cap; repeat' split <;> omega
theorem cap_add_cap (a b : Int) (h : 0 ≤ a) : cap (a + cap b) = cap (a + b) := by unfold cap; repeat' split <;> omega
theorem sum_nn (l : List Int) : 0 ≤ sum l := by
  induction l with
  | nil => exact Int.le_refl 0
  | cons a r ih => unfold sum; have := fit_bd a; omega
theorem sum_snoc (l : List Int) (a : Int) : sum (l ++ [a]) = sum l + fit a := by
  induction l with
  | nil => simp [sum]
  | cons b r ih => simp only [List.cons_append, sum]; rw [ih]; omega
theorem sum_take (zs : List Int) (k : Nat) (h : k < zs.length) : sum (zs.take (k + 1)) = sum (zs.take k) + fit (zs.getD k 0) := by
  rw [List.take_add_one, List.getElem?_eq_getElem h]
  simp only [Option.toList]
  rw [sum_snoc]
  simp [List.getD, h]
theorem step (zs : List Int) (k : Nat) (h : k < zs.length) : cap (cap (sum (zs.take k)) + fit (zs.getD k 0)) = cap (sum (zs.take (k + 1))) := by
  rw [sum_take zs k h]
  exact cap_cap_add _ _ (fit_bd _).1

theorem scale {x s k : Int} (hx : 0 ≤ x) (hk : 0 ≤ k) : cap (x + s * k) = cap (x + cap s * k) := by
  by_cases hb : 4611686018427387904 < s
  · have hc : cap s = 4611686018427387904 := cap_big (by omega)
    rw [hc]
    by_cases h0 : k = 0
    · rw [h0]; simp
    · have g1 : s * 1 ≤ s * k := Int.mul_le_mul_of_nonneg_left (by omega) (by omega)
      rw [Int.mul_one] at g1
      rw [cap_big (by omega), cap_big (by omega)]
  · rw [cap_mid (n := s) (by omega)]
/-- A product, made by halves: a round with nothing over. -/
theorem half0 {p q r : Int} (hp : 0 ≤ p) (hr : 0 ≤ r) (h : r % 2 = 0) : cap (p + q * r) = cap (p + cap (q + q) * (r / 2)) := by
  have e : q * r = (q + q) * (r / 2) := by
    have h1 : r = 2 * (r / 2) := by omega
    have h2 : q * r = q * (2 * (r / 2)) := by rw [← h1]
    rw [h2, ← Int.mul_assoc, Int.mul_comm q 2, Int.two_mul]
  rw [e, scale hp (by omega)]
/-- A round with one over. -/
theorem half1 {p q r : Int} (hp : 0 ≤ p) (hq : 0 ≤ q) (hr : 0 ≤ r) (h : r % 2 = 1) : cap (p + q * r) = cap (cap (p + q) + cap (q + q) * (r / 2)) := by
  have e : p + q * r = (p + q) + (q + q) * (r / 2) := by
    have h1 : r = 2 * (r / 2) + 1 := by omega
    have h2 : q * r = q * (2 * (r / 2) + 1) := by rw [← h1]
    rw [h2, Int.mul_add, ← Int.mul_assoc, Int.mul_comm q 2, Int.two_mul, Int.mul_one]
    omega
  have hk : 0 ≤ r / 2 := by omega
  have n1 : 0 ≤ cap (q + q) * (r / 2) := Int.mul_nonneg (cap_bd (by omega)).1 hk
  rw [e, scale (by omega) hk, cap_cap_add _ _ n1]
theorem done {p q r : Int} (hp : p = 4611686018427387904) (hq : 0 ≤ q) (hr : 0 ≤ r) : cap (p + q * r) = 4611686018427387904 := by
  have := Int.mul_nonneg hq hr
  exact cap_big (by omega)
/-- The document's product: one number against the most, divided by the other one. -/
theorem prod_big {x y : Int} (hy : 0 < y) (h : 4611686018427387904 / y < x) : cap (x * y) = 4611686018427387904 := by
  have h1 : 4611686018427387904 < x * y := (Int.ediv_lt_iff_lt_mul hy).1 h
  exact cap_big (by omega)
theorem prod_mid {x y : Int} (hy : 0 < y) (h : x ≤ 4611686018427387904 / y) : x * y ≤ 4611686018427387904 := (Int.le_ediv_iff_mul_le hy).1 h
theorem cap_mul_cap {a b c : Int} (hc : 0 ≤ c) : cap (cap (a * b) * c) = cap (a * b * c) := by
  have h := scale (x := 0) (s := a * b) (k := c) (by omega) hc
  rw [Int.zero_add, Int.zero_add] at h
  exact h.symm
theorem cap_mul_cap_r {a b c : Int} (ha : 0 ≤ a) : cap (a * cap (b * c)) = cap (a * b * c) := by
  rw [Int.mul_comm a (cap (b * c)), cap_mul_cap ha, Int.mul_comm (b * c) a, Int.mul_assoc]
end St
end St
end Go.Proofs.Ytehiclmkdpcplaa
