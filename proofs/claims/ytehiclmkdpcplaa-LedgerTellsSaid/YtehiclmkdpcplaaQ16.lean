/- Package excess whole: what layer 7's laws lean on, as it is: one value of the bundle. No condition but those written. Walks over package stays: does the last one go on, may something be done now, which one has a minute. Condition: the list reads as stays. Walks over package stays: which stay has a minute (a labelled loop), its zone. Condition: the list reads as stays. Walks over package stays: slices.Clone of stays, the stays up to a minute. Conditions: the list reads as stays, its slice's length is at most its capacity. Walks over package stays: how many minutes, whether two lists are one. Conditions: the lists read as stays; the slice's length is at most its capacity. Walks over package stays: Enter, Leave. Conditions: the list reads as stays; its slice's length is at most its capacity. Package stays, whole: the bundle's value. No condition. What layer 13's laws lean on of package ledger, as it is: one value of the bundle; both laws over their arguments. No condition but those written. -/
import Derived.Test.YtehiclmkdpcplaaQ15
import Derived.Test.YtehiclmkdpcplaaQ06
import Derived.Test.YtehiclmkdpcplaaQ11
import Derived.WalkMore
import Derived.Test.YtehiclmkdpcplaaQ05
import Derived.Test.YtehiclmkdpcplaaQ14
namespace Go.Proofs.Ytehiclmkdpcplaa
open Go.RowKit Se

namespace Ex
theorem reach_any (B h h0 : Nat) (F0 : Nat → Prop) (v : Value) (P : List Pt) (kn wo ga li : Int) (S : List Rd) (m : Int) (w : World) (hp : Idx w B h h0 F0 v P kn wo ga li S) (hs : Sorted S) (hr : ∀ x ∈ S, rightB x = true) (hm : mayB wo ga = true) (hl : tenB li = true) (hL : S.length ≤ 1000)
    (hm1 : m ≤ 1048576) :
    Calls Try.prog 74 #[.pointer (some ⟨h, 0, none⟩), .int .i64 m] w fun e w' => (∃ u, e = .returned u) ∧ Known w B h h0 F0 v m wo ga li S w' := by
  by_cases h1 : m ≤ kn
  · exact (reach_known B h h0 F0 v P kn wo ga li S m w hp h1).mono fun e w' ⟨he, hb⟩ => ⟨he, v, P, kn, hp.keep hb, h1, Turn.of_below hb, fun _ hk => .inl hk⟩
  · exact reach_new B h h0 F0 v P kn wo ga li S m w hp hs hr hm hl hL (by omega) hm1
theorem upto_any (B h h0 : Nat) (F0 : Nat → Prop) (v : Value) (P : List Pt) (kn wo ga li : Int) (S : List Rd) (m : Int) (w : World) (hp : Idx w B h h0 F0 v P kn wo ga li S) (hs : Sorted S) (hr : ∀ x ∈ S, rightB x = true) (hm : mayB wo ga = true) (hl : tenB li = true) (hL : S.length ≤ 1000)
    (hm0 : 0 ≤ m) (hm1 : m ≤ 1048576) :
    Calls Try.prog 66 #[.pointer (some ⟨h, 0, none⟩), .int .i64 m] w fun e w' => e = .returned (.int .i64 (run (exm wo ga li S) 0 m.toNat)) ∧ Known w B h h0 F0 v m wo ga li S w' :=
  upto_of B h h0 F0 wo ga li S m w (Known w B h h0 F0 v m wo ga li S) (exm_mild hm hr hl) hm0 hm1 (fun _ ⟨v', P', kn', h1, h2, _, _⟩ => ⟨v', P', kn', h1, h2⟩) (fun _ _ h1 h2 => h1.keep h2) (reach_any B h h0 F0 v P kn wo ga li S m w hp hs hr hm hl hL hm1)
theorem less_run {wo ga li : Int} {S : List Rd} (hf : Mild (exm wo ga li S)) (a b : Int) :
    St.St.fit (St.St.fit (run (exm wo ga li S) 0 (cou b).toNat) - St.St.fit (run (exm wo ga li S) 0 (cou a).toNat)) = tot wo ga li S a b := by
  have ha := cou_bd a
  have hb := cou_bd b
  rw [tot_cou]
  generalize exm wo ga li S = f at *
  generalize cou a = ca at *
  generalize cou b = cb at *
  have ra := run_top hf 0 ca.toNat (by omega)
  have rb := run_top hf 0 cb.toNat (by omega)
  rw [St.St.fit_mid ra.1 (by omega), St.St.fit_mid rb.1 (by omega)]
  by_cases h : ca ≤ cb
  · have e := run_more (f := f) ha.1 h
    have rc := run_top hf ca (cb - ca).toNat (by omega)
    rw [show max ca cb = cb by omega, St.St.fit_mid (by omega) (by omega)]
    omega
  · have e := run_more (f := f) hb.1 (show cb ≤ ca by omega)
    have rc := run_top hf cb (ca - cb).toNat (by omega)
    rw [show (max ca cb - ca).toNat = 0 by omega]
    show St.St.fit _ = 0
    by_cases h2 : run f 0 cb.toNat - run f 0 ca.toNat < 0
    · exact St.St.fit_neg h2
    · rw [show run f 0 cb.toNat - run f 0 ca.toNat = 0 by omega]
      exact St.St.fit_mid (by omega) (by omega)
set_option maxRecDepth 100000 in
set_option maxHeartbeats 4000000 in
theorem xidx_sum (B h h0 : Nat) (F0 : Nat → Prop) (v : Value) (P : List Pt) (kn wo ga li : Int) (S : List Rd) (a b : Int) (w : World) (hp : Idx w B h h0 F0 v P kn wo ga li S) (hs : Sorted S) (hr : ∀ x ∈ S, rightB x = true) (hm : mayB wo ga = true) (hl : tenB li = true) (hL : S.length ≤ 1000) :
    Calls Try.prog 42 #[.pointer (some ⟨h, 0, none⟩), .int .i64 a, .int .i64 b] w fun e w' => e = .returned (.int .i64 (tot wo ga li S a b)) ∧ PutX w B h (Own3 h F0 v) wo ga li S w' := by
  have LR := Lib.hid (less_run (exm_mild hm hr hl) a b)
  have CA := Lib.hid (fun W => counted_any a W)
  have CB := Lib.hid (fun W => counted_any b W)
  have ha := cou_bd a
  have hb := cou_bd b
  have UA := Lib.hid (fun W v' P' kn' (hq : Idx W B h h0 F0 v' P' kn' wo ga li S) => upto_any B h h0 F0 v' P' kn' wo ga li S (cou a) W hq hs hr hm hl hL ha.1 ha.2)
  have UB := Lib.hid (upto_any B h h0 F0 v P kn wo ga li S (cou b) w hp hs hr hm hl hL hb.1 hb.2)
  have LS := Lib.hid (fun W => St.less_any (run (exm wo ga li S) 0 (cou b).toNat) (run (exm wo ga li S) 0 (cou a).toNat) W)
  rw [LR.out] at LS
  generalize run (exm wo ga li S) 0 (cou b).toNat = rb at *
  generalize run (exm wo ga li S) 0 (cou a).toNat = ra at *
  generalize cou a = ca at *
  generalize cou b = cb at *
  generalize tot wo ga li S a b = u at *
  have HF := Lib.hid (fun k => hp.foot (k := k))
  clear hp hs hr hm hl hL ha hb
  go_enter Try.func42, Try.ntmps42
  go_wp2_with fail
  refine (CB.out _).mono ?_
  rintro e w1 ⟨rfl, rfl⟩
  go_wp2_with fail
  refine UB.out.mono ?_
  rintro e w1 ⟨rfl, v1, P1, k1, h1, _, h3, h4⟩
  have I1 := Lib.hid h1
  have T1 := Lib.hid h3
  have V1 := Lib.hid h4
  clear h1 h3 h4 UB CB
  go_wp2_with fail
  refine (CA.out _).mono ?_
  rintro e w2 ⟨rfl, rfl⟩
  go_wp2_with fail
  refine (UA.out _ v1 P1 k1 I1.out).mono ?_
  rintro e w2 ⟨rfl, v2, P2, k2, h1, _, h3, h4⟩
  have I2 := Lib.hid h1
  have T2 := Lib.hid h3
  have V2 := Lib.hid h4
  clear h1 h3 h4 UA CA
  go_wp2_with fail
  refine (LS.out _).mono ?_
  rintro e w3 ⟨rfl, rfl⟩
  go_wp2
  go_ret
  have TW := (T1.out.mono (S' := Own3 h F0 v) (fun _ _ hk => hk.elim .inl (fun h1 => .inr (.inr h1)))).trans T2.out (fun k hk => by
    rcases hk with hk | hk
    · exact .inl (.inl hk)
    · rcases V1.out k hk with h1 | h1
      · exact .inl (.inr (.inr h1))
      · exact .inr h1)
  refine ⟨rfl, Own3 h F0 v2, ⟨h0, F0, v2, P2, k2, I2.out, rfl⟩, TW, fun k hk => ?_⟩
  rcases hk with hk | hk | hk
  · exact .inl (.inl hk)
  · exact .inl (.inr (.inl hk))
  · rcases V2.out k hk with h1 | h1
    · rcases V1.out k h1 with h2 | h2
      · exact .inl (.inr (.inr h2))
      · exact .inr h2
    · exact .inr (Nat.le_trans T1.out.size h1)
/-- The bundle. -/
def xface : Face where
  IX := IXF
  foot := fun ⟨_, _, _, _, _, hp, e⟩ hk => hp.foot (e ▸ hk)
  turn := fun ⟨h0, F0, v, P, kn, hp, e⟩ ht hs => ⟨h0, F0, v, P, kn, hp.turn ht (fun k hk => hs k (e ▸ hk)), e⟩
  new_yes := xnew_yes
  new_no := xnew_no
  put := fun B h F wo ga li S r w ⟨h0, F0, v, P, kn, hp, e⟩ hs hr _ _ hL => by
    subst e
    exact xput_any B h h0 F0 v P kn wo ga li S r w hp hs hr hL
  sum := fun B h F wo ga li S a b w ⟨h0, F0, v, P, kn, hp, e⟩ hs hr hm hl hL _ _ _ _ => by
    subst e
    exact xidx_sum B h h0 F0 v P kn wo ga li S a b w hp hs hr hm hl hL
  nil_put := nil_put
  nil_sum := nil_sum
end Ex
end Go.Proofs.Ytehiclmkdpcplaa

namespace Go.Proofs.Ytehiclmkdpcplaa
open Go.RowKit

namespace Sy
def onB (S : List Sy) : Bool := match S.getLast? with | none => false | some s => decide (s.to = -1)
theorem on_B {S : List Sy} : onB S = true ↔ On S := by
  rcases ends_of S with rfl | ⟨A, s, rfl⟩
  · constructor
    · intro h
      cases h
    · rintro ⟨A, x, h, _⟩
      simp at h
  · unfold onB
    rw [List.getLast?_concat]
    constructor
    · intro h
      exact ⟨A, s, rfl, by simpa using h⟩
    · rintro ⟨B, x, h, hx⟩
      have := (List.append_inj' h rfl).2
      simp only [List.cons.injEq, and_true] at this
      subst this
      simp [hx]
theorem on_no {S : List Sy} (h : ¬ On S) : onB S = false := by
  cases hb : onB S
  · rfl
  · exact absurd (on_B.1 hb) h
theorem last_at {S : List Sy} {n : Nat} (hn : S.length = n) (h0 : 0 < n) : ∃ x, S[n - 1]? = some x ∧ S.getLast? = some x := by
  have : n - 1 < S.length := by omega
  exact ⟨_, List.getElem?_eq_getElem this, by rw [List.getLast?_eq_getElem?, hn, List.getElem?_eq_getElem this]⟩
/-- May something be done now with stays that may be? -/
def mayB (S : List Sy) (now : Int) : Bool := match S.getLast? with | none => decide (0 ≤ now) | some s => if s.to = -1 then decide (s.frm ≤ now) else decide (now = s.to)
theorem may_B {S : List Sy} {now : Int} (h : Right S) : mayB S now = true ↔ May S now := by
  rcases ends_of S with rfl | ⟨A, s, rfl⟩
  · constructor
    · intro hb
      exact ⟨h, by simpa [mayB] using hb, fun s hs => by cases hs⟩
    · intro hm
      have := hm.2.1
      simpa [mayB] using this
  · unfold mayB
    rw [List.getLast?_concat]
    simp only
    obtain ⟨h1, h2, h3, h4, h5⟩ := right_snoc.1 h
    constructor
    · intro hb
      by_cases hc : s.to = -1
      · rw [if_pos hc, decide_eq_true_eq] at hb
        refine ⟨h, by omega, fun x hx => ?_⟩
        rw [List.getLast?_concat] at hx
        rw [← Option.some.inj hx]
        exact .inl ⟨hc, hb⟩
      · rw [if_neg hc, decide_eq_true_eq] at hb
        refine ⟨h, by omega, fun x hx => ?_⟩
        rw [List.getLast?_concat] at hx
        rw [← Option.some.inj hx]
        exact .inr hb.symm
    · intro hm
      rcases may_last hm with ⟨e, hf⟩ | e
      · rw [if_pos e, decide_eq_true_eq]
        exact hf
      · have := hm.2.1
        rw [if_neg (by omega), decide_eq_true_eq]
        exact e.symm
theorem may_no {S : List Sy} {now : Int} (h : Right S) (hm : ¬ May S now) : mayB S now = false := by
  cases hb : mayB S now
  · rfl
  · exact absurd ((may_B h).1 hb) hm
end Sy
end Go.Proofs.Ytehiclmkdpcplaa

namespace Go.Proofs.Ytehiclmkdpcplaa
open Go.RowKit

namespace Sy
/-- Which one has a minute. -/
def Placed (S : List Sy) (m r : Int) : Prop := (r = -1 ∧ S.find? (has m) = none) ∨ ∃ (k : Nat) (x : Sy), r = k ∧ S[k]? = some x ∧ S.find? (has m) = some x
def PlaceEnd (S : List Sy) (m : Int) (w : World) (e : Ending) (w' : World) : Prop := ∃ r : Int, Placed S m r ∧ e = .returned (.int .i64 r) ∧ Below w.heap.size w w'
/-- None of the first ones has it. -/
def Nones (S : List Sy) (m : Int) (k : Nat) : Prop := ∀ i s, i < k → S[i]? = some s → has m s = false
theorem find_at {S : List Sy} {m : Int} {k : Nat} {x : Sy} (h : Nones S m k) (hx : S[k]? = some x) (hh : has m x = true) : S.find? (has m) = some x := by
  have hk := (List.getElem?_eq_some_iff.1 hx)
  obtain ⟨hlt, e⟩ := hk
  rw [List.find?_eq_some_iff_append]
  refine ⟨hh, S.take k, S.drop (k + 1), ?_, fun a ha => ?_⟩
  · rw [← e, ← List.drop_eq_getElem_cons hlt, List.take_append_drop]
  · obtain ⟨i, hi⟩ := List.mem_iff_getElem?.1 ha
    have hik : i < k := by
      have := (List.getElem?_eq_some_iff.1 hi).1
      rw [List.length_take] at this
      omega
    rw [List.getElem?_take_of_lt hik] at hi
    simp [h i a hik hi]
theorem find_no {S : List Sy} {m : Int} (h : Nones S m S.length) : S.find? (has m) = none := by
  rw [List.find?_eq_none]
  intro s hs
  obtain ⟨i, hi⟩ := List.mem_iff_getElem?.1 hs
  simp [h i s (List.getElem?_eq_some_iff.1 hi).1 hi]
theorem nones_next {S : List Sy} {m : Int} {k : Nat} {x : Sy} (h : Nones S m k) (hx : S[k]? = some x) (hh : has m x = false) : Nones S m (k + 1) := fun i s hi hs => by
  by_cases hlt : i < k
  · exact h i s hlt hs
  · obtain rfl : i = k := by omega
    rw [hx] at hs
    rw [← Option.some.inj hs]
    exact hh
theorem has_no {m : Int} {s : Sy} (h : ¬ (s.frm ≤ m ∧ (s.to = -1 ∨ m < s.to))) : has m s = false := by
  cases hb : has m s
  · rfl
  · exact absurd (has_iff.1 hb) h
theorem nones_rest {S : List Sy} (hR : Right S) {m : Int} {k : Nat} {x : Sy} (h : Nones S m k) (hx : S[k]? = some x) (hm : m < x.frm) : Nones S m S.length := fun i s _ hs => by
  by_cases hlt : i < k
  · exact h i s hlt hs
  · have := rights_le hR hx (i - k) s (by rw [show k + (i - k) = i by omega]; exact hs)
    exact has_no (fun hh => by omega)
end Sy
end Go.Proofs.Ytehiclmkdpcplaa

namespace Go.Proofs.Ytehiclmkdpcplaa
open Go.RowKit

namespace Sy
theorem info : (Try.prog.info? 52).map (fun i => (i.zero, i.size, i.bytes)) = some (some (.agg #[.int .i64 0, .int .i64 0, .int .i64 0]), 3, 24) := by kernel_rfl
theorem scells_one (x : Sy) : ∀ u ∈ scells x, u.oneCell' = true := fun u hu => by
  simp only [scells, List.mem_cons, List.not_mem_nil, or_false] at hu
  rcases hu with rfl | rfl | rfl <;> rfl
set_option maxRecDepth 100000 in
set_option maxHeartbeats 4000000 in
theorem clone_any (q : Option Addr) (n c : Nat) (S : List Sy) (w : World) (h : Rw 3 scells w q n S) (hL : S.length ≤ 1000000) :
    Calls Try.prog 44 #[.slice q n c] w fun e w' => ∃ v, e = .returned v ∧ w'.ownsRow w.heap.size 52 3 v S.length (S.flatMap scells) ∧ Below w.heap.size w w' := by
  have qe : ∀ (w : World) (a : Option Addr) (n c n' c' : Nat), (binOp .eql 24 (.slice a n c) (.slice none n' c')).run Try.prog w = .ok (.bool a.isNone) w := fun w a n c n' c' => Lib.run_eql_slice_nil w _ _ a n c n' c' Try.underlying24
  cases q with
  | none =>
    have hS : S = [] := by
      rcases Nat.eq_zero_or_pos n with h0 | h0
      · exact List.eq_nil_of_length_eq_zero (h.1.trans h0)
      · obtain ⟨_, _, e, _⟩ := h.2 h0
        cases e
    subst hS
    go_enter Try.func44, Try.ntmps44
    go_wp2
    go_ret
    exact ⟨_, rfl, World.ownsRow_nil _ _ _ _, Below.refl _ _⟩
  | some a =>
    obtain ⟨i0, hi, hz0, hz1, hz2⟩ := info_parts info
    have hn := h.1
    have hl : (S.flatMap scells).length = n * 3 := by rw [flat_len scells_len, hn]
    have hc : ∀ j u, (S.flatMap scells)[j]? = some u → w.cell? (a.add j) = some u := fun j u hj => by
      have hlt := (List.getElem?_eq_some_iff.1 hj).1
      obtain ⟨b, o, e, _⟩ := h.2 (by omega)
      cases e
      rw [add_none]
      exact rw_cells scells_len h j u hj
    have HC := Lib.hid hc
    have H1 := Lib.hid (show ∀ u ∈ S.flatMap scells, u.oneCell' = true from fun u hu => by
      obtain ⟨y, _, hu⟩ := List.mem_flatMap.1 hu
      exact scells_one y u hu)
    subst hn
    clear hc h
    go_enter Try.func44, Try.ntmps44
    go_wp2_with (at_builtin; refine wpList_append_own _ rfl _ _ 24 rfl w.heap.size 52 i0 _ 3 24 Try.underlying24 hi hz0 hz1 hz2 rfl (by decide) _ _ _ rfl (World.ownsRow_made w #[] 0 (Nat.le_refl _) (Nat.zero_le _) (by simp)) a S.length c (S.flatMap scells) rfl ?qc1 ?qc2 ?qc3 ?qc4 ?qc5 ?qc6 ?_)
    case qc1 => exact hl
    case qc2 =>
      intro j u hj
      exact Lib.cell?_alloc_some _ (HC.out j u hj)
    case qc3 => exact H1.out
    case qc4 => unfold maxLen; omega
    case qc5 => omega
    case qc6 => simp
    intro v' w1 hown hgrow hnil
    go_wp2
    go_ret
    refine ⟨v', rfl, by simpa using hown, ?_⟩
    exact ((Below.refl _ w).alloc (Nat.le_refl _) _).grown hgrow (by simp) (by intro k hk; simp [Value.ownBlock] at hk; omega)
/-- What stays up to a minute are, as the program finds them. -/
theorem upto_found {S : List Sy} (h : Right S) (m : Int) {k : Nat} (hk : k ≤ S.length) (hlt : ∀ i s, i < k → S[i]? = some s → s.frm < m) (h0 : ∀ s, S[k]? = some s → m ≤ s.frm) : uptoS S m = cutL S k m := by
  rw [upto_stop h m hk h0, upto_take h m k hk hlt]
theorem cut_zero (S : List Sy) (m : Int) : cutL S 0 m = [] := by
  rw [cutL, dif_neg (by omega)]
theorem cut_some {S : List Sy} {j : Nat} {x : Sy} (m : Int) (hx : S[j]? = some x) : cutL S (j + 1) m = (S.take (j + 1)).set j (cut m x) := by
  obtain ⟨hlt, e⟩ := List.getElem?_eq_some_iff.1 hx
  rw [cutL, dif_pos ⟨by omega, by omega⟩]
  have e2 : j + 1 - 1 = j := rfl
  simp only [e2]
  rw [e, List.take_add_one, hx, Option.toList_some, List.set_append_right _ _ (by rw [List.length_take]; omega), List.length_take, show j - min j S.length = 0 by omega]
  rfl
theorem cut_same {S : List Sy} {j : Nat} {x : Sy} (m : Int) (hx : S[j]? = some x) (hc : ¬ (x.to = -1 ∨ m < x.to)) : cutL S (j + 1) m = S.take (j + 1) := by
  have h1 : (S.take (j + 1))[j]? = some x := by rw [List.getElem?_take_of_lt (by omega)]; exact hx
  obtain ⟨hlt, e⟩ := List.getElem?_eq_some_iff.1 h1
  rw [cut_some m hx, cut, if_neg hc, ← e, List.set_getElem_self]
theorem own_base {w : World} {B B' : Nat} {e : TypeId} {k n : Nat} {v : Value} {xs : List Value} (h : w.ownsRow B e k v n xs) (hB : B' ≤ B) : w.ownsRow B' e k v n xs := by
  refine ⟨h.1, ?_⟩
  rcases h.2 with h0 | ⟨g, cap, cur, h1, hb, h2⟩
  · exact .inl h0
  · exact .inr ⟨g, cap, cur, h1, Nat.le_trans hB hb, h2⟩
/-- The first ones begin ahead of a minute. -/
def Firsts (S : List Sy) (m : Int) (k : Nat) : Prop := ∀ i s, i < k → S[i]? = some s → s.frm < m
theorem firsts_next {S : List Sy} {m : Int} {k : Nat} {x : Sy} (h : Firsts S m k) (hx : S[k]? = some x) (hh : x.frm < m) : Firsts S m (k + 1) := fun i s hi hs => by
  by_cases hlt : i < k
  · exact h i s hlt hs
  · obtain rfl : i = k := by omega
    rw [hx] at hs
    rw [← Option.some.inj hs]
    exact hh
set_option maxRecDepth 100000 in
set_option maxHeartbeats 8000000 in
theorem pupto_any (p : Option Addr) (n c : Nat) (S : List Sy) (m : Int) (w : World) (h : Rw 3 scells w p n S) (hn : n ≤ 1000000) (hnc : n ≤ c) :
    Calls Try.prog 26 #[.slice p n c, .int .i64 m] w (UptoEnd (uptoV S m) w) := by
  have hn' : (n : Int) ≤ 1000000 := by omega
  have H := Lib.hid h
  have HN := Lib.hid h.1
  have CR := Lib.hid (pright_any p n c S w h hn)
  by_cases hR : Right S
  · have HB := Lib.hid (right_yes hR)
    have HU : Hid (uptoV S m = uptoS S m) := Lib.hid (by unfold uptoV; rw [if_pos HB.out])
    have HR := Lib.hid hR
    rw [HU.out]
    clear h hR HU
    go_enter Try.func26, Try.ntmps26
    go_wp2_with fail
    refine CR.out.mono ?_
    rintro e w1 ⟨rfl, hb⟩
    rw [HB.out]
    have B1 := Lib.hid hb
    have H1 := Lib.hid (H.out.keep scells_len hb)
    clear hb CR H
    go_wp2
    go_loop [5] (fun i => ∃ k : Nat, k ≤ n ∧ i = .int .i64 k ∧ Hid (Firsts S m k)) (fun i => n - (RowKit.intOf i).toNat)
    case atStart => exact ⟨0, Nat.zero_le _, rfl, Lib.hid (fun i s hi => by omega)⟩
    case round =>
      obtain ⟨k, hk, rfl, HF⟩ := hrel
      by_cases hgo : ∃ x, S[k]? = some x ∧ x.frm < m
      · obtain ⟨x, hx, hf⟩ := hgo
        have hk3 : (k : Int) < (n : Int) := by have := (List.getElem?_eq_some_iff.1 hx).1; have := HN.out; omega
        have hk4 : k < n := by omega
        obtain ⟨b, o, rfl, e0, e1, e2⟩ := rw_at H1.out hx
        have F1 := Lib.hid (firsts_next HF.out hx hf)
        have gk : decide (k < n) = true := by simp; omega
        clear hx e0 e2
        go_wp2
        go_round
        case rel => exact ⟨k + 1, by omega, by go_num, F1⟩
        case measure => simp [RowKit.intOf]; omega
      · have HE : Hid (uptoS S m = cutL S k m) := Lib.hid (upto_found HR.out m (by have := HN.out; omega) HF.out (fun s hs => by
          by_cases h : s.frm < m
          · exact absurd ⟨s, hs, h⟩ hgo
          · omega))
        have HT := Lib.hid (fun W (hW : Rw 3 scells W p n S) => clone_any p k c (S.take k) W (hW.take k hk) (by rw [List.length_take]; omega))
        have hkc : (k : Int) ≤ (c : Int) := by omega
        have hkl : (S.take k).length = k := by rw [List.length_take, HN.out]; omega
        have HK := Lib.hid hkl
        have hstop : (k : Int) < (n : Int) → ∃ x, S[k]? = some x ∧ ¬ x.frm < m := fun hl => by
          have hl' : k < S.length := by have := HN.out; omega
          exact ⟨_, List.getElem?_eq_getElem hl', fun hf => hgo ⟨_, List.getElem?_eq_getElem hl', hf⟩⟩
        clear hgo hkl
        by_cases hlt : (k : Int) < (n : Int)
        · obtain ⟨x0, hx0, hf⟩ := hstop hlt
          obtain ⟨b, o, rfl, _, e1, _⟩ := rw_at H1.out hx0
          have gk : decide (k < n) = true := by simp; omega
          clear hstop hx0
          go_wp2_with fail
          refine (HT.out _ H1.out).mono ?_
          rintro e w2 ⟨v, rfl, ho, hb⟩
          have B2 := Lib.hid (B1.out.trans (hb.mono B1.out.size))
          have hz := B1.out.size
          clear hb HT
          rcases Nat.eq_zero_or_pos k with hk0 | hk0
          · subst hk0
            have HO := Lib.hid ho
            have HC := Lib.hid (cut_zero S m)
            obtain ⟨q, d, rfl⟩ := own_slice ho
            clear ho
            go_wp2
            go_ret
            refine ⟨_, rfl, ?_, B2.out⟩
            rw [HE.out, HC.out]
            exact own_base HO.out hz
          · obtain ⟨x, hx⟩ : ∃ x, S[k - 1]? = some x := ⟨_, List.getElem?_eq_getElem (by have := HN.out; omega)⟩
            obtain ⟨b2, c2, rfl, hB2, hlt2, hnc2⟩ := own_some ho (by rw [HK.out]; exact hk0)
            have hx2 : (S.take k)[k - 1]? = some x := by rw [List.getElem?_take_of_lt (by omega)]; exact hx
            have f1 : w2.cell? ⟨b2, (k - 1) * 3 + 2, none⟩ = some (.int .i64 x.to) := row_cell scells_len ho rfl hx2 (i := 2) (by decide)
            have fz : w2.frozen? ⟨b2, (k - 1) * 3 + 2, none⟩ = false := by
              obtain ⟨cur, HG, _⟩ := lies_own ho
              exact HG.frozen _
            have gz : decide (0 < k) = true := by simp; omega
            have hw2 : IntKind.i64.wrap ((k : Int) - 1) = ((k - 1 : Nat) : Int) := by rw [show (k : Int) - 1 = ((k - 1 : Nat) : Int) by omega]; exact IntWalk.i64_in _ (by omega)
            have hw3 : (k : Int) - 1 = ((k - 1 : Nat) : Int) := by omega
            have hj3 : ((k - 1 : Nat) : Int) < (k : Int) := by omega
            have hj4 : (((S.take k).length : Nat) : Int) = (k : Int) := by rw [HK.out]
            have HO := Lib.hid (own_base ho hz)
            have HS := Lib.hid (row_store (x' := ⟨x.zone, x.frm, m⟩) scells_len (own_base ho hz) hx2 (i := 2) (by decide) (u := .int .i64 m) rfl)
            have HX : Hid (S[k - 1]? = some x) := Lib.hid hx
            have HB2 := Lib.hid (Nat.le_trans hz hB2)
            have HKJ : Hid (k - 1 + 1 = k) := Lib.hid (by omega)
            rw [HK.out]
            clear ho hx hx2 hB2 hlt2
            obtain ⟨j, hj⟩ : ∃ j, k - 1 = j := ⟨_, rfl⟩
            rw [hj] at hw2 hw3 hj3 f1 fz HS HX HKJ
            clear hj
            by_cases hc : x.to = -1 ∨ m < x.to
            · have HC : Hid (cutL S k m = (S.take k).set j ⟨x.zone, x.frm, m⟩) := Lib.hid (by rw [← HKJ.out, cut_some m HX.out, cut, if_pos hc])
              have HL : Hid ((cutL S k m).length = (S.take k).length) := Lib.hid (by rw [HC.out, List.length_set])
              by_cases ht : x.to = -1
              · have te : (x.to == -1) = true := by simp [ht]
                clear hc ht
                go_wp2
                go_ret
                refine ⟨_, rfl, ?_, B2.out.setCell HB2.out _⟩
                rw [HE.out, HL.out, HC.out, HK.out]
                have h1 := HS.out
                rw [HK.out] at h1
                exact h1
              · have te : (x.to == -1) = false := by simp [ht]
                have tm : m < x.to := by omega
                clear hc ht
                go_wp2
                go_ret
                refine ⟨_, rfl, ?_, B2.out.setCell HB2.out _⟩
                rw [HE.out, HL.out, HC.out, HK.out]
                have h1 := HS.out
                rw [HK.out] at h1
                exact h1
            · have te : (x.to == -1) = false := by simp; omega
              have tm : ¬ m < x.to := by omega
              have HC : Hid (cutL S k m = S.take k) := Lib.hid (by
                have := cut_same m HX.out hc
                rwa [HKJ.out] at this)
              clear hc
              go_wp2
              go_ret
              refine ⟨_, rfl, ?_, B2.out⟩
              rw [HE.out, HC.out, HK.out]
              have h1 := HO.out
              rw [HK.out] at h1
              exact h1
        · have gk : decide (k < n) = false := by simp; omega
          clear hstop
          go_wp2_with fail
          refine (HT.out _ H1.out).mono ?_
          rintro e w2 ⟨v, rfl, ho, hb⟩
          have B2 := Lib.hid (B1.out.trans (hb.mono B1.out.size))
          have hz := B1.out.size
          clear hb HT
          rcases Nat.eq_zero_or_pos k with hk0 | hk0
          · subst hk0
            have HO := Lib.hid ho
            have HC := Lib.hid (cut_zero S m)
            obtain ⟨q, d, rfl⟩ := own_slice ho
            clear ho
            go_wp2
            go_ret
            refine ⟨_, rfl, ?_, B2.out⟩
            rw [HE.out, HC.out]
            exact own_base HO.out hz
          · obtain ⟨x, hx⟩ : ∃ x, S[k - 1]? = some x := ⟨_, List.getElem?_eq_getElem (by have := HN.out; omega)⟩
            obtain ⟨b2, c2, rfl, hB2, hlt2, hnc2⟩ := own_some ho (by rw [HK.out]; exact hk0)
            have hx2 : (S.take k)[k - 1]? = some x := by rw [List.getElem?_take_of_lt (by omega)]; exact hx
            have f1 : w2.cell? ⟨b2, (k - 1) * 3 + 2, none⟩ = some (.int .i64 x.to) := row_cell scells_len ho rfl hx2 (i := 2) (by decide)
            have fz : w2.frozen? ⟨b2, (k - 1) * 3 + 2, none⟩ = false := by
              obtain ⟨cur, HG, _⟩ := lies_own ho
              exact HG.frozen _
            have gz : decide (0 < k) = true := by simp; omega
            have hw2 : IntKind.i64.wrap ((k : Int) - 1) = ((k - 1 : Nat) : Int) := by rw [show (k : Int) - 1 = ((k - 1 : Nat) : Int) by omega]; exact IntWalk.i64_in _ (by omega)
            have hw3 : (k : Int) - 1 = ((k - 1 : Nat) : Int) := by omega
            have hj3 : ((k - 1 : Nat) : Int) < (k : Int) := by omega
            have hj4 : (((S.take k).length : Nat) : Int) = (k : Int) := by rw [HK.out]
            have HO := Lib.hid (own_base ho hz)
            have HS := Lib.hid (row_store (x' := ⟨x.zone, x.frm, m⟩) scells_len (own_base ho hz) hx2 (i := 2) (by decide) (u := .int .i64 m) rfl)
            have HX : Hid (S[k - 1]? = some x) := Lib.hid hx
            have HB2 := Lib.hid (Nat.le_trans hz hB2)
            have HKJ : Hid (k - 1 + 1 = k) := Lib.hid (by omega)
            rw [HK.out]
            clear ho hx hx2 hB2 hlt2
            obtain ⟨j, hj⟩ : ∃ j, k - 1 = j := ⟨_, rfl⟩
            rw [hj] at hw2 hw3 hj3 f1 fz HS HX HKJ
            clear hj
            by_cases hc : x.to = -1 ∨ m < x.to
            · have HC : Hid (cutL S k m = (S.take k).set j ⟨x.zone, x.frm, m⟩) := Lib.hid (by rw [← HKJ.out, cut_some m HX.out, cut, if_pos hc])
              have HL : Hid ((cutL S k m).length = (S.take k).length) := Lib.hid (by rw [HC.out, List.length_set])
              by_cases ht : x.to = -1
              · have te : (x.to == -1) = true := by simp [ht]
                clear hc ht
                go_wp2
                go_ret
                refine ⟨_, rfl, ?_, B2.out.setCell HB2.out _⟩
                rw [HE.out, HL.out, HC.out, HK.out]
                have h1 := HS.out
                rw [HK.out] at h1
                exact h1
              · have te : (x.to == -1) = false := by simp [ht]
                have tm : m < x.to := by omega
                clear hc ht
                go_wp2
                go_ret
                refine ⟨_, rfl, ?_, B2.out.setCell HB2.out _⟩
                rw [HE.out, HL.out, HC.out, HK.out]
                have h1 := HS.out
                rw [HK.out] at h1
                exact h1
            · have te : (x.to == -1) = false := by simp; omega
              have tm : ¬ m < x.to := by omega
              have HC : Hid (cutL S k m = S.take k) := Lib.hid (by
                have := cut_same m HX.out hc
                rwa [HKJ.out] at this)
              clear hc
              go_wp2
              go_ret
              refine ⟨_, rfl, ?_, B2.out⟩
              rw [HE.out, HC.out, HK.out]
              have h1 := HO.out
              rw [HK.out] at h1
              exact h1
  · have HB := Lib.hid (right_no hR)
    have HU : Hid (uptoV S m = []) := Lib.hid (by unfold uptoV; rw [if_neg (by rw [HB.out]; decide)])
    rw [HU.out]
    clear h hR HU
    go_enter Try.func26, Try.ntmps26
    go_wp2_with fail
    refine CR.out.mono ?_
    rintro e w1 ⟨rfl, hb⟩
    rw [HB.out]
    have B1 := Lib.hid hb
    clear hb CR H
    go_wp2
    go_ret
    exact ⟨_, rfl, World.ownsRow_nil _ _ _ _, B1.out⟩
end Sy
end Go.Proofs.Ytehiclmkdpcplaa

namespace Go.Proofs.Ytehiclmkdpcplaa
open Go.RowKit

namespace Sy
theorem uptoV_mem {S : List Sy} {m : Int} {s : Sy} (h : s ∈ uptoV S m) : 0 ≤ s.frm ∧ s.frm < s.to ∧ s.to ≤ m := by
  unfold uptoV at h
  by_cases hR : Right S
  · rw [if_pos (right_yes hR)] at h
    obtain ⟨i, hi⟩ := List.mem_iff_getElem?.1 h
    have h1 := upto_shut hR m i s hi
    have h2 := upto_to h
    exact ⟨h1.2.1, h1.2.2.1, h2.1⟩
  · rw [if_neg (by rw [right_no hR]; decide)] at h
    cases h
theorem sum_V (S : List Sy) (m : Int) : sumS (uptoV S m) = minutesV S m := by
  unfold uptoV minutesV
  by_cases hR : Right S
  · rw [if_pos (right_yes hR), if_pos (right_yes hR), sum_upto]
  · rw [if_neg (by rw [right_no hR]; decide), if_neg (by rw [right_no hR]; decide)]
    rfl
theorem sum_bd (S : List Sy) {m : Int} (hm : m ≤ 9223372036854775807) (k : Nat) : 0 ≤ sumS ((uptoV S m).take k) ∧ sumS ((uptoV S m).take k) ≤ 9223372036854775807 := by
  unfold uptoV
  by_cases hR : Right S
  · rw [if_pos (right_yes hR)]
    have := sum_part hR m k
    omega
  · rw [if_neg (by rw [right_no hR]; decide), List.take_nil]
    decide
theorem sum_next {U : List Sy} {k : Nat} {x : Sy} (hx : U[k]? = some x) : sumS (U.take (k + 1)) = sumS (U.take k) + (x.to - x.frm) := by
  rw [List.take_add_one, hx, Option.toList_some, sum_snoc]
theorem takes {α : Type} {l l2 : List α} {k : Nat} {x : α} (h : l.take k = l2.take k) (hx : l[k]? = some x) (hy : l2[k]? = some x) : l.take (k + 1) = l2.take (k + 1) := by
  rw [List.take_add_one, List.take_add_one, h, hx, hy]
theorem nots {α : Type} [DecidableEq α] {l l2 : List α} {k : Nat} {x y : α} (hx : l[k]? = some x) (hy : l2[k]? = some y) (h : x ≠ y) : decide (l = l2) = false := by
  rw [decide_eq_false_iff_not]
  rintro rfl
  rw [hx] at hy
  exact h (Option.some.inj hy)
end Sy
end Go.Proofs.Ytehiclmkdpcplaa

namespace Go.Proofs.Ytehiclmkdpcplaa
open Go.RowKit

namespace Sy
theorem until_V {S : List Sy} {now : Int} (h : May S now) : uptoV S now = untilS S now := by
  unfold uptoV
  rw [if_pos (right_yes h.1), upto_until h]
end Sy
end Go.Proofs.Ytehiclmkdpcplaa

namespace Go.Proofs.Ytehiclmkdpcplaa
open Go.RowKit

namespace Sy
theorem sface : Face where
  right := fun p n c S w h hn => pright_any p n c S w h hn
  upto := fun p n c S m w h hn hnc => pupto_any p n c S m w h hn hnc
end Sy
end Go.Proofs.Ytehiclmkdpcplaa

namespace Go.Proofs.Ytehiclmkdpcplaa
open Go.RowKit Go.Maps Se

namespace Lg
/-- A zone comes. -/
theorem paddL_any (J : Se.Face) (I : Ex.Face) (B h : Nat) (F : Nat → Prop) (st : List Zl) (z : Ms.Zn) (w : World) (hp : DBl J I w B h F st) (hL : st.length ≤ 1000) (hI : I64 z.id) :
    Calls Try.prog 17 #[.pointer (some ⟨h, 0, none⟩), Ms.zval z] w fun e w' => e = .returned (.int .i64 ((addZ st z).1 : Nat)) ∧ Left (DBl J I) w B h F (addZ st z).2 w' := by
  by_cases h1 : z.id < 1
  · rw [show addZ st z = (1, st) by unfold addZ; rw [if_pos (.inl h1)]]
    refine (padd_low h z w h1).mono ?_
    rintro e w' ⟨rfl, hb⟩
    exact ⟨rfl, left_keep (dbl_keep hp hb) hb⟩
  · cases hm : mayB z.worst z.gap with
    | false =>
      rw [show addZ st z = (1, st) by unfold addZ; rw [if_pos (.inr hm)]]
      refine (padd_bad J h z w (by omega) hm).mono ?_
      rintro e w' ⟨rfl, hb⟩
      exact ⟨rfl, left_keep (dbl_keep hp hb) hb⟩
    | true =>
      have hc : ¬ (z.id < 1 ∨ mayB z.worst z.gap = false) := by
        rw [hm]
        simp
        omega
      obtain ⟨mo, L, hP, rfl, hF⟩ := hp
      rw [List.length_map] at hL
      cases ha : atZ z.id (L.map Pz.z) with
      | some i =>
        rw [show addZ (L.map Pz.z) z = (6, L.map Pz.z) by unfold addZ; rw [if_neg hc, ha]]
        obtain ⟨y, _, _, hq, _⟩ := one_zone ha
        refine (padd_twice J I B h mo L y.q z w hP (by omega) hI hm hq).mono ?_
        rintro e w' ⟨rfl, hb⟩
        exact ⟨rfl, left_keep (dbl_keep ⟨mo, L, hP, rfl, hF⟩ hb) hb⟩
      | none =>
        rw [show addZ (L.map Pz.z) z = (0, L.map Pz.z ++ [⟨z.id, z.worst, z.gap, []⟩]) by unfold addZ; rw [if_neg hc, ha]]
        cases mo with
        | none => exact padd_first J I B h F L z w hP hF hL (by omega) hI hm ha
        | some bm => exact padd_more J I B h F bm L z w hP hF hL (by omega) hI hm ha
/-- Package ledger. -/
def lface : Face where
  DB := DBl Se.face Ex.xface
  foot := fun h k => dbl_foot h k
  turn := fun h t s => dbl_turn h t s
  new := fun w => pnewL_any Se.face Ex.xface w
  add := fun B h F st z w hp _ hL hI => paddL_any Se.face Ex.xface B h F st z w hp hL hI
  put := fun B h F st zone r w hp hg _ hz => pputL_any Se.face Ex.xface B h F st zone r w hp hg hz
  expo := fun B h F st lim p n c S m w hp hg _ hl hm hr hn hc hS _ => pexpoL_any Se.face Ex.xface Sy.sface B h F st lim p n c S m w hp hg hl hm hr hn hc hS
  air := fun B h F st zone m w hp hg _ hz hm => pairL_any Se.face Ex.xface B h F st zone m w hp hg hz hm
  told := fun B h F st zone w hp hg _ hz => ptold_any Se.face Ex.xface B h F st zone w hp hg hz
  nil_add := nilL_add
  nil_put := nilL_put
  nil_expo := fun lim p n c S m w hr hn hc => nilL_expo Sy.sface lim p n c S m w hr hn hc
  nil_air := nilL_air
  nil_told := fun zone w => (nilL_told zone w).mono (fun _ _ h => ⟨⟨none, 0, h.1⟩, h.2⟩)
theorem tells_in (v0 : Value) (x0 : Sl) (v1 : Value) (x1 : Sl) (v2 : Value) (x2 : Ak) (W : World) (h0 : InZ W v0 x0) (h1 : InU W v1 x1) (h2 : InK W v2 x2) :
    Calls Try.prog 3 #[v0, v1, v2] W fun e w' => e = .returned (.bool true) ∧ Below W.heap.size W w' := tells_all lface v0 x0 v1 x1 v2 x2 W h0 h1 h2
theorem minutes_in (v0 : Value) (x0 : Sl) (v1 : Value) (x1 : Sl) (v2 : Value) (x2 : Ak) (W : World) (h0 : InZ W v0 x0) (h1 : InU W v1 x1) (h2 : InK W v2 x2) :
    Calls Try.prog 4 #[v0, v1, v2] W fun e w' => e = .returned (.bool true) ∧ Below W.heap.size W w' := minutes_all lface v0 x0 v1 x1 v2 x2 W h0 h1 h2
end Lg
theorem own : ownKnob Try.prog.godebug = none := by kernel_rfl
end Go.Proofs.Ytehiclmkdpcplaa
