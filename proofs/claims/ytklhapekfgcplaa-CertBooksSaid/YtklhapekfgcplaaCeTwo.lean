/- A book of certificates, and the document's list, side by side. Conditions: the contracts of package cert. -/
import Derived.Test.YtklhapekfgcplaaCeFace
import Derived.Test.YtklhapekfgcplaaCe4
import Derived.Test.YtklhapekfgcplaaCe5
namespace Go.Proofs.Ytklhapekfgcplaa
open Go.RowKit

namespace Ce
theorem bq_lt {w : World} {q : Option Addr} {m : Nat} {l : List Ct} (h : Rw 8 ccells w q m l) {k : Nat} (hk : Bq q m k) : k < w.heap.size := by
  obtain ⟨h0, a, ha, rfl⟩ := hk
  obtain ⟨b, o, e, hc⟩ := h.2 h0
  rw [e] at ha
  rw [← Option.some.inj ha]
  have hx := hc 0 _ (List.getElem?_eq_getElem (by rw [h.1]; exact h0)) 0 (by decide)
  exact World.block_lt_of_cell? w _ hx
theorem rw_turn {w w' : World} {q : Option Addr} {m : Nat} {l : List Ct} {T : Nat → Prop} (h : Rw 8 ccells w q m l) (ht : Turn T w w') (hs : ∀ k, Bq q m k → ¬ T k) : Rw 8 ccells w' q m l := by
  by_cases h0 : 0 < m
  · obtain ⟨b, o, e, _⟩ := h.2 h0
    exact h.turn ccells_len ht (fun a ha => hs a.block ⟨h0, a, ha, rfl⟩) (by rw [e]; simp)
  · exact ⟨h.1, fun h1 => absurd h1 h0⟩
/-- A book that holds l, and a list that reads as l2, apart from each other; nothing older than the book has turned. -/
def Two (I : Face) (w0 w : World) (h : Nat) (l : List Ct) (q : Option Addr) (m d : Nat) (l2 : List Ct) : Prop :=
  Good l ∧ Below w0.heap.size w0 w ∧ Rw 8 ccells w q m l2 ∧ m ≤ d ∧ l.length ≤ 100000 ∧ ∃ F, I.DB w w0.heap.size h F l ∧ ∀ k, Bq q m k → ¬ F k
variable {I : Face} {w0 w w' : World} {h : Nat} {l l' : List Ct} {q : Option Addr} {m d : Nat} {l2 l3 : List Ct}
theorem Two.base (t : Two I w0 w h l q m d l2) : Below w0.heap.size w0 w := t.2.1
theorem Two.good (t : Two I w0 w h l q m d l2) : Good l := t.1
theorem Two.row (t : Two I w0 w h l q m d l2) : Rw 8 ccells w q m l2 := t.2.2.1
theorem Two.len (t : Two I w0 w h l q m d l2) : l.length ≤ 100000 := t.2.2.2.2.1
theorem Two.below (t : Two I w0 w h l q m d l2) (hb : Below w.heap.size w w') : Two I w0 w' h l q m d l2 := by
  obtain ⟨hg, h0, hr, hd, h6, F, hD, hF⟩ := t
  exact ⟨hg, h0.trans (hb.mono h0.size), hr.keep ccells_len hb, hd, h6, F, I.keep hD hb, hF⟩
theorem two_new {F : Nat → Prop} (hd : I.DB w w0.heap.size h F []) (hb : Below w0.heap.size w0 w) : Two I w0 w h [] none 0 0 [] :=
  ⟨good_nil, hb, rw_nil w, Nat.le_refl _, Nat.zero_le _, F, hd, fun _ hk => absurd hk.1 (Nat.lt_irrefl 0)⟩
theorem issue_len (l : List Ct) (c : Ct) : (issueF l c).1.length ≤ l.length + 1 := by
  unfold issueF
  split <;> simp
theorem two_issue1 (t : Two I w0 w h l q m d l2) (c : Ct) (hl : l.length < 100000) :
    Calls Try.prog 15 #[.pointer (some ⟨h, 0, none⟩), cval c] w fun e w' => e = .returned (.tuple #[.int .i64 (issueF l c).2.1, .int .i64 (issueF l c).2.2]) ∧ Two I w0 w' h (issueF l c).1 q m d l2 := by
  obtain ⟨hg, h0, hr, hd, h6, F, hD, hF⟩ := t
  refine (I.issue _ h F l c w hD hg h6).mono fun e w' he => ?_
  obtain ⟨he, F', h3, h4, h5⟩ := he
  refine ⟨he, hg.issued c, h4.below h0 h0.size (fun i hi => (I.foot hD hi).1), rw_turn hr h4 hF, hd, ?_, F', h3, fun k hk hk' => ?_⟩
  · have := issue_len l c
    omega
  · rcases h5 k hk' with e | e
    · exact hF k hk e
    · have := bq_lt hr hk
      omega
theorem two_issue2 (t : Two I w0 w h l q m d l2) (c : Ct) (hm : m ≤ 100000) :
    Calls Try.prog 16 #[.slice q m d, cval c] w fun e w' => ∃ q' m' d', e = .returned (.tuple #[.slice q' m' d', .int .i64 (issueF l2 c).2.1, .int .i64 (issueF l2 c).2.2]) ∧ Two I w0 w' h l q' m' d' (issueF l2 c).1 := by
  refine (r17issue_any q m d l2 c w t.row (by omega) t.2.2.2.1).mono fun e w' he => ?_
  obtain ⟨q', m', d', he, h1, h2, h3, h4⟩ := he
  obtain ⟨hg, h0, hr, hd, h6, F, hD, hF⟩ := t
  refine ⟨q', m', d', he, hg, h0.trans (h4.mono h0.size), h1, h2, h6, F, I.keep hD h4, fun k hk hk' => ?_⟩
  rcases h3 k hk with e | e
  · exact hF k e hk'
  · have := (I.foot hD hk').2
    omega
theorem two_cert (t : Two I w0 w h l q m d l2) (id : Int) (h1 : I64 id) :
    Calls Try.prog 17 #[.pointer (some ⟨h, 0, none⟩), .int .i64 id] w fun e w' => e = .returned (.tuple #[cval (certF l id).1, .int .i64 (certF l id).2]) ∧ Below w.heap.size w w' := by
  obtain ⟨hg, h0, hr, hd, h6, F, hD, hF⟩ := t
  exact I.cert _ h F l id w hD hg h6 h1
/-- The book's list. -/
theorem two_all (t : Two I w0 w h l q m d l2) :
    Calls Try.prog 19 #[.pointer (some ⟨h, 0, none⟩)] w fun e w' => (∃ p c, e = .returned (.slice p l.length c) ∧ Rw 8 ccells w' p l.length l) ∧ Below w.heap.size w w' := by
  obtain ⟨hg, h0, hr, hd, h6, F, hD, hF⟩ := t
  refine (I.all _ h F l w hD hg h6).mono fun e w' he => ?_
  obtain ⟨v, rfl, ho, hb⟩ := he
  obtain ⟨p, c, rfl⟩ := own_slice ho
  exact ⟨⟨p, c, rfl, own_ct ho rfl⟩, hb⟩
/-- What is flagged by a list that is older than the book. -/
theorem two_flagged (t : Two I w0 w h l q m d l2) {p : Option Addr} {n c : Nat} {now : List Int} (hr0 : Rw 1 icells w0 p n now) (hn : n ≤ 100000) (hnc : n ≤ c) :
    Calls Try.prog 20 #[.pointer (some ⟨h, 0, none⟩), .slice p n c] w fun e w' => (∃ v d, e = .returned (.slice v (flagF l now).length d) ∧ w'.ownsRow w.heap.size 3 1 (.slice v (flagF l now).length d) (flagF l now).length ((flagF l now).flatMap icells)) ∧ Below w.heap.size w w' := by
  obtain ⟨hg, h0, hr, hd, h6, F, hD, hF⟩ := t
  refine (I.flagged _ h F l p n c now w hD hg h6 (hr0.keep icells_len h0) hn hnc (fun k hk hf => ?_)).mono fun e w' he => ?_
  · obtain ⟨hk0, a, ha, rfl⟩ := hk
    obtain ⟨b, o, e, hc⟩ := hr0.2 hk0
    rw [e] at ha
    rw [← Option.some.inj ha] at hf
    have h3 := World.block_lt_of_cell? w0 _ (hc 0 _ (List.getElem?_eq_getElem (by rw [hr0.1]; exact hk0)) 0 (by decide))
    have h2 := (I.foot hD hf).1
    simp only at h2 h3
    omega
  · obtain ⟨v, rfl, ho, hb⟩ := he
    obtain ⟨p2, c2, rfl⟩ := own_slice ho
    exact ⟨⟨p2, c2, rfl, ho⟩, hb⟩
theorem two_same (t : Two I w0 w h l q m d l) {p : Option Addr} {n c : Nat} (hr : Rw 8 ccells w p n l) (hn : n ≤ 100000) :
    Calls Try.prog 18 #[.slice p n c, .slice q m d] w fun e w' => e = .returned (.bool true) ∧ Below w.heap.size w w' := by
  refine (r17same_any p q n m c d l l w (by omega) hr t.row).mono fun e w' he => ?_
  obtain ⟨he, k, rfl⟩ := he
  exact ⟨by rw [he]; simp, ⟨rfl, rfl, rfl, Nat.le_refl _, fun _ _ => rfl⟩⟩
/-- What is flagged, one certificate more. -/
theorem flag_take {l : List Ct} {now : List Int} : ∀ {k : Nat} {x : Ct}, l[k]? = some x → flagF (l.take (k + 1)) now = flagF (l.take k) now ++ match now[k]? with | some n => if x.allowance < n then [x.id] else [] | none => [] := by
  induction l generalizing now with
  | nil =>
    intro k x h
    simp at h
  | cons y l ih =>
    intro k x h
    cases now with
    | nil =>
      rw [flag_nil, flag_nil]
      simp
    | cons n now =>
      cases k with
      | zero =>
        simp only [List.getElem?_cons_zero, Option.some.injEq] at h
        subst h
        simp only [List.take_succ_cons, List.take_zero, List.getElem?_cons_zero]
        show (if y.allowance < n then y.id :: flagF [] now else flagF [] now) = flagF [] (n :: now) ++ _
        have e1 : flagF [] now = [] := by cases now <;> rfl
        have e2 : flagF [] (n :: now) = [] := rfl
        rw [e1, e2]
        split <;> rfl
      | succ k =>
        rw [List.getElem?_cons_succ] at h
        have h1 := ih (now := now) h
        simp only [List.take_succ_cons, List.getElem?_cons_succ]
        show (if y.allowance < n then y.id :: flagF (l.take (k + 1)) now else flagF (l.take (k + 1)) now) = (if y.allowance < n then y.id :: flagF (l.take k) now else flagF (l.take k) now) ++ _
        rw [h1]
        split <;> rfl
theorem flag_le : ∀ (l : List Ct) (now : List Int), (flagF l now).length ≤ l.length
  | [], now => by cases now <;> simp [flagF]
  | c :: l, [] => by rw [flag_nil]; simp
  | c :: l, n :: now => by
    have h1 := flag_le l now
    show (if c.allowance < n then c.id :: flagF l now else flagF l now).length ≤ _
    split <;> simp <;> omega
end Ce
end Go.Proofs.Ytklhapekfgcplaa
