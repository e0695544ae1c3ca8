/- A region that draws its order, in a round of a range over a function: by the plain laws. No condition but those written. StockPuts' walk: any lots come as they are, into a stock. Condition: the contracts of packages master and stock. Layer 12's laws over arguments that came in. Condition: the contracts of packages master and stock. Package stock's lots as a map holds them: a form of things, a list in the order of numbers. No condition but those written. Walks over package stays: may stays be, does the last one go on, may something be done now. Condition: the list reads as stays. Walks over package stays: does the last one go on, may something be done now, which one has a minute. Condition: the list reads as stays. Walks over package stays: which stay has a minute (a labelled loop), its zone. Condition: the list reads as stays. Copies within rows of things of several cells: plain laws, of no program. No condition but those written. -/
import Derived.Test.YtkfmkchonlajpaaGreatQ01
import Derived.RangeFuncNested
import Derived.RangeFuncBound
import Derived.RangeFuncCalls
import Derived.RangeFuncLeaves
import Derived.Deep.RegionHeld3
import Derived.StillTail
import Derived.WalkKit
import Derived.OwnWalkIn
import Derived.TacticsInMore
import Derived.LoopNIn
import Derived.LoopIn
import Derived.Test.YtkfmkchonlajpaaGreatQ11
import Derived.Test.YtkfmkchonlajpaaGreatQ10
import Derived.Test.YtkfmkchonlajpaaGreatQ02
import Derived.Test.YtkfmkchonlajpaaGreatQ03
import Derived.Deep.QuietTactic
import Derived.BigQuiet
import Derived.WalkMore
import Derived.Shelf.Spec.SlicesInsert
import Derived.Lib.AppendZerosOnto
import Derived.Laws.NewBlocks
import Derived.Lib.Overlaps
import Derived.Lib.SliceRun
import Derived.Deep.RegionLaw
namespace Go.Proofs.YtkfmkchonlajpaaGreat
open Go.RowKit

/-- Only where it goes on. -/
def Only (Q : Exit → Act → World → Prop) : Exit → Act → World → Prop
  | .normal, a, w => Q .normal a w
  | _, _, _ => False
theorem Only.imp {Q : Exit → Act → World → Prop} : ∀ (e : Exit) (a : Act) (w : World), Only Q e a w → Q e a w := fun e a w h => by
  cases e <;> first | exact h | exact (h : False).elim
theorem Only.lets {Q : Exit → Act → World → Prop} : ¬ LetsOut (Only Q) := fun ⟨_, _, h⟩ => h
/-- Does no operation defer a call? -/
def noDefer (ops : Array Oper) : Bool := ops.all fun o => match o.op with
  | .defer _ => false
  | _ => true
theorem noDefer_spec {ops : Array Oper} (h : noDefer ops = true) (i : Nat) (o : Oper) (ho : ops[i]? = some o) : ∀ c, o.op ≠ .defer c := by
  intro c e
  obtain ⟨hi, rfl⟩ := Array.getElem?_eq_some_iff.1 ho
  have := Array.all_eq_true.1 h i hi
  rw [e] at this
  cases this
section
variable {P : Program} {ops : Array Oper} {Q : Exit → Act → World → Prop} {md : Region.Mode} {l n : Nat}
theorem op_round {o : Oper} {a : Act} {w : World} {K : Act → World → Prop} (hd : ∀ c, o.op ≠ .defer c) (h : o.wp P a w K (Only Q)) : o.wpIn (Fence.wide.inRound l) n P a w K (Only Q) := by
  unfold Oper.wpIn
  refine ⟨fun _ _ => trivial, ?_⟩
  rw [show (Fence.wide.inRound l).round = some l from rfl, Oper.semAt_some l _ _ hd]
  unfold Oper.wp at h
  generalize (execOp a.eval o).run P w = r at *
  cases r with
  | ok x w' =>
    cases x <;> simp only [Oper.upon] at h <;> simp only [Oper.uponIn]
    case value v => exact h
    case skip => exact h
    case defer d => exact h
    case enter f args => exact ⟨fun hh => Bool.noConfusion hh, (CallsIn.inRound l (callsIn_wide.2 h)).mono fun e w'' he => by cases e <;> exact he⟩
    case row row args => exact ⟨fun hh => Bool.noConfusion hh, fun c cs _ => let ⟨v, w', r, s⟩ := h c cs; ⟨v, w', r, stepsIn_wide.2 s⟩⟩
  | halt x w' => cases x <;> simp only [Oper.upon] at h <;> simp only [Oper.uponIn] <;> exact h
theorem any_round (hd : noDefer ops = true) : ∀ (fuel : Nat) (listed : Array Bool) (a : Act) (w : World), wpAny P md ops (Only Q) fuel listed a w → wpAnyIn (Fence.wide.inRound l) n P md ops (Only Q) fuel listed a w
  | 0, _, _, _, h => h
  | fuel + 1, listed, a, w, h => ⟨h.1, fun i hi => by
    have h := h.2 i hi
    unfold wpOp at h
    unfold wpOpIn
    cases ho : ops[i]? with
    | none =>
      simp only [ho] at h ⊢
      exact any_round hd fuel _ _ _ h
    | some o =>
      simp only [ho] at h ⊢
      by_cases hw : Region.wanted o (yielded ops a.tmps) = true
      · simp only [hw, if_true] at h ⊢
        rcases h with h | h
        · exact Oper.wpIn_mono (fun a w h => any_round hd fuel _ a w h) (op_round (noDefer_spec hd i o ho) h)
        · exact absurd h.2 Only.lets
      · simp only [hw, if_false, Bool.false_eq_true] at h ⊢
        exact ⟨fun _ _ => trivial, any_round hd fuel _ _ _ h⟩⟩
/-- A region that draws its order, in a round. -/
theorem round_any {id : Nat} {a : Act} {w : World} (hm : P.follows .mixedOrders = true) (hd : noDefer ops = true) (h : wpAny P .any ops (Only Q) ops.size (Array.replicate ops.size false) a w.drew) :
    (Code.region id ops true).wpIn (Fence.wide.inRound l) n P Q a w :=
  wpIn_mono (wpIn_region_any hm (any_round hd _ _ _ _ h)) Only.imp
/-- The same, where a condition is kept. -/
theorem round_held {id : Nat} {a : Act} {w : World} (S : World → Prop) (hm : P.follows .mixedOrders = true) (hd : noDefer ops = true) (hS : S w.drew)
    (h : S w.drew → wpAnyH P .any ops (Only Q) S ops.size (Array.replicate ops.size false) a w.drew) : (Code.region id ops true).wpIn (Fence.wide.inRound l) n P Q a w :=
  round_any hm hd (wpAny_of_held _ _ _ _ (h hS))
/-- All have come up. -/
theorem held_done {S : World → Prop} {listed : Array Bool} {a : Act} {w : World} {fuel : Nat} (hr : Region.ready md ops listed = []) (h : Q .normal a w) : wpAnyH P md ops (Only Q) S fuel listed a w := wpAnyH_done (Q := Only Q) hr h fuel
/-- One operation comes up, and no other one. -/
theorem held_one {S : World → Prop} {listed : Array Bool} {a : Act} {w : World} {fuel i : Nat} {o : Oper} (hr : Region.ready md ops listed = [i]) (ho : ops[i]? = some o)
    (h : ∀ K' : Act → World → Prop, Shut (∀ a w, S w → (S w → wpAnyH P md ops Q S fuel (listed.setIfInBounds i true) a w) → K' a w) → if Region.wanted o (yielded ops a.tmps) = true then Oper.wp P o a w K' Q else K' (a.put o.dst undef) w) :
    wpAnyH P md ops Q S (fuel + 1) listed a w := wpAnyH_ready hr (by simp) (AllReadyH.cons ho h AllReadyH.nil)
/-- One of two comes up. -/
theorem held_two {S : World → Prop} {listed : Array Bool} {a : Act} {w : World} {fuel i j : Nat} {o o' : Oper} (hr : Region.ready md ops listed = [i, j]) (ho : ops[i]? = some o) (ho' : ops[j]? = some o')
    (h : ∀ K' : Act → World → Prop, Shut (∀ a w, S w → (S w → wpAnyH P md ops Q S fuel (listed.setIfInBounds i true) a w) → K' a w) → if Region.wanted o (yielded ops a.tmps) = true then Oper.wp P o a w K' Q else K' (a.put o.dst undef) w)
    (h' : ∀ K' : Act → World → Prop, Shut (∀ a w, S w → (S w → wpAnyH P md ops Q S fuel (listed.setIfInBounds j true) a w) → K' a w) → if Region.wanted o' (yielded ops a.tmps) = true then Oper.wp P o' a w K' Q else K' (a.put o'.dst undef) w) :
    wpAnyH P md ops Q S (fuel + 1) listed a w := wpAnyH_ready hr (by simp) (AllReadyH.cons ho h (AllReadyH.cons ho' h' AllReadyH.nil))
/-- A call of a Go function comes up. -/
theorem held_call {o : Oper} {a : Act} {w : World} {K : Act → World → Prop} {E : Prop} {f : FuncId} {args : Array Value} {R : Ending → World → Prop} (hg : o.guard = none) (hx : (execOp a.eval o).run P w = .ok (.enter f args) w)
    (hc : Calls P f args w R) (h : ∀ e w', R e w' → ∃ v, e = .returned v ∧ K (a.put o.dst v) w') : if Region.wanted o (yielded ops a.tmps) = true then Oper.wp P o a w K Q else E := by
  have hw : Region.wanted o (yielded ops a.tmps) = true := by simp [Region.wanted, hg]
  rw [if_pos hw]
  unfold Oper.wp
  rw [hx]
  refine hc.mono fun e w' he => ?_
  obtain ⟨v, rfl, hk⟩ := h e w' he
  exact hk
/-- An operation that yields a value comes up. -/
theorem held_value {o : Oper} {a : Act} {w w' : World} {v : Value} {K : Act → World → Prop} {E : Prop} (hg : o.guard = none) (hx : (execOp a.eval o).run P w = .ok (.value v) w') (h : K (a.put o.dst v) w') : if Region.wanted o (yielded ops a.tmps) = true then Oper.wp P o a w K Q else E := by
  have hw : Region.wanted o (yielded ops a.tmps) = true := by simp [Region.wanted, hg]
  rw [if_pos hw]
  unfold Oper.wp
  rw [hx]
  exact h
end
section
variable {P : Program} {ops : Array Oper} {Q : Exit → Act → World → Prop} {md : Region.Mode} {S : World → Prop} {N : Nat}
/-- Whatever order is picked from here on; a condition is kept by the operations ahead of number N alone. -/
def anyT (P : Program) (md : Region.Mode) (ops : Array Oper) (Q : Exit → Act → World → Prop) (S : World → Prop) (N : Nat) : Nat → Array Bool → Act → World → Prop
  | 0, listed, a, w => Region.ready md ops listed = [] ∧ Q .normal a w
  | f + 1, listed, a, w => (Region.ready md ops listed = [] → Q .normal a w) ∧
    ∀ i ∈ Region.ready md ops listed, wpOp P ops Q i (fun a' w' => (i < N → S w') ∧ anyT P md ops Q S N f (listed.setIfInBounds i true) a' w') a w
theorem any_of_T : ∀ (f : Nat) (listed : Array Bool) (a : Act) (w : World), anyT P md ops Q S N f listed a w → wpAny P md ops Q f listed a w
  | 0, _, _, _, h => h
  | f + 1, _, _, _, h => ⟨h.1, fun i hi => wpOp_mono (fun a' w' h' => any_of_T f _ a' w' h'.2) (h.2 i hi)⟩
/-- Does number j wait for number i, in so many steps? -/
def reachB (md : Region.Mode) (ops : Array Oper) : Nat → Nat → Nat → Bool
  | 0, _, _ => false
  | f + 1, j, i => match ops[j]? with
    | some oj => oj.after.any fun e => Region.binds md e && (e.on == i || reachB md ops f e.on i)
    | none => false
/-- Do all operations from number N on wait for number i? -/
def allWait (md : Region.Mode) (ops : Array Oper) (N i : Nat) : Bool := decide (i < N) && (List.range ops.size).all fun j => decide (j < N) || reachB md ops ops.size j i
/-- Of whatever has come up, has come up what it waits for? -/
def Shutt (md : Region.Mode) (ops : Array Oper) (listed : Array Bool) : Prop := ∀ j oj, ops[j]? = some oj → listed.getD j false = true → ∀ e ∈ oj.after, Region.binds md e = true → listed.getD e.on false = true
def shutB (md : Region.Mode) (ops : Array Oper) (listed : Array Bool) : Bool := (List.range ops.size).all fun j => !listed.getD j false || match ops[j]? with
  | some oj => oj.after.all fun e => !Region.binds md e || listed.getD e.on false
  | none => true
theorem shut_of {listed : Array Bool} (h : shutB md ops listed = true) : Shutt md ops listed := fun j oj hj hl e he hb => by
  have h1 := List.all_eq_true.1 h j (List.mem_range.2 (Array.getElem?_eq_some_iff.1 hj).1)
  rw [hl, hj, Bool.not_true, Bool.false_or] at h1
  have h2 := Array.all_eq_true'.1 h1 e he
  simpa [hb] using h2
theorem Shutt.set {listed : Array Bool} {i : Nat} (h : Shutt md ops listed) (hi : i ∈ Region.ready md ops listed) : Shutt md ops (listed.setIfInBounds i true) := fun j oj hj hl e he hb => by
  obtain ⟨_, oi, hoi, hall⟩ := mem_ready.1 hi
  by_cases e1 : i = j
  · subst e1
    rw [hoi] at hj
    cases hj
    exact getD_set_true (hall e he hb)
  · rw [getD_set_ne false e1] at hl
    exact getD_set_true (h j oj hj hl e he hb)
theorem reach_listed {listed : Array Bool} (h : Shutt md ops listed) {i : Nat} : ∀ (f j : Nat), reachB md ops f j i = true → listed.getD j false = true → listed.getD i false = true
  | 0, _, hr, _ => by cases hr
  | f + 1, j, hr, hl => by
    unfold reachB at hr
    cases hj : ops[j]? with
    | none =>
      rw [hj] at hr
      cases hr
    | some oj =>
      rw [hj] at hr
      obtain ⟨e, he, h1⟩ := Array.any_eq_true'.1 hr
      simp only [Bool.and_eq_true, Bool.or_eq_true, beq_iff_eq] at h1
      have h2 := h j oj hj hl e he h1.1
      rcases h1.2 with rfl | h3
      · exact h2
      · exact reach_listed h f _ h3 h2
theorem ahead_of {i j : Nat} {listed : Array Bool} (hc : Shutt md ops listed) (h : allWait md ops N i = true) (hj : j ∈ Region.ready md ops listed) (hi : listed.getD i true = false) : j < N := by
  simp only [allWait, Bool.and_eq_true] at h
  obtain ⟨hju, oj, hoj, hall⟩ := mem_ready.1 hj
  have hlt : j < ops.size := (Array.getElem?_eq_some_iff.1 hoj).1
  have h2 := List.all_eq_true.1 h.2 j (List.mem_range.2 hlt)
  rw [Bool.or_eq_true] at h2
  rcases h2 with h2 | h2
  · simpa using h2
  · have h3 := reach_listed (i := i) (hc.set hj) _ j h2 (by
      have : j < listed.size := by
        rcases Nat.lt_or_ge j listed.size with h' | h'
        · exact h'
        · simp [Array.getElem?_eq_none h'] at hju
      simp [this])
    by_cases e : j = i
    · subst e
      simpa using h.1
    · rw [getD_set_ne false e, getD_both hi] at h3
      cases h3
/-- An operation that may come up, and reads alone, is taken first. -/
theorem takeT_from {i : Nat} {oi : Oper} {v : Value} (hi : ops[i]? = some oi) (hs : Region.noSelect ops = true) (hw : allWait md ops N i = true) (hQ : ∀ c a w, Q (.panic c) (a.put oi.dst v) w → Q (.panic c) a w) :
    ∀ (f : Nat) (listed : Array Bool) (a : Act) (w : World), Shutt md ops listed → (∀ j oj, ops[j]? = some oj → j ≠ i → listed.getD j true = false → (∀ e ∈ oj.after, Region.binds md e = true → e.on ≠ i) → oi.apart ops oj = true) →
      i ∈ Region.ready md ops listed → YieldsIf P ops S oi v a → S w → anyT P md ops Q S N f (listed.setIfInBounds i true) (a.put oi.dst v) w → anyT P md ops Q S N (f + 1) listed a w := by
  intro f
  induction f with
  | zero =>
    intro listed a w _ _ hr hy hS H
    refine ⟨fun h => (by rw [h] at hr; cases hr), fun j hj => ?_⟩
    by_cases e : j = i
    · cases e
      exact hy.wpOp hi hS ⟨fun _ => hS, H⟩
    · have h1 := ready_mono hj e
      rw [H.1] at h1
      cases h1
  | succ f ih =>
    intro listed a w hc hfree hr hy hS H
    refine ⟨fun h => (by rw [h] at hr; cases hr), fun j hj => ?_⟩
    by_cases e : j = i
    · cases e
      exact hy.wpOp hi hS ⟨fun _ => hS, H⟩
    · obtain ⟨hju, oj, hoj, hall⟩ := mem_ready.1 hj
      have hiu := (mem_ready.1 hr).1
      have hjN := ahead_of hc hw hj hiu
      have hon : ∀ d ∈ oj.after, Region.binds md d = true → d.on ≠ i := fun d hd hb he => by
        have h1 := hall d hd hb
        rw [he, getD_both hiu] at h1
        cases h1
      have h1 := wpOp_putIf hoj (hfree j oj hoj e hju hon) (fun cs b => Region.noSelect_spec hs i oi cs b hi) (fun cs b => Region.noSelect_spec hs j oj cs b hoj) hQ hy (H.2 j (ready_mono hj e))
      refine wpOp_mono (fun a' w' h2 => ⟨h2.2.1, ih _ a' w' (hc.set hj) (fun k ok hk hki hku hko => hfree k ok hk hki ?_ hko) (ready_mono hr (Ne.symm e)) h2.1 (h2.2.1 hjN) ?_⟩) h1
      · by_cases ejk : j = k
        · cases ejk
          exact hju
        · rwa [getD_set_ne true ejk] at hku
      · rw [Array.setIfInBounds_comm _ _ e]
        exact h2.2.2
theorem takeT {i : Nat} {oi : Oper} {v : Value} {f : Nat} {listed : Array Bool} {a : Act} {w : World} (hi : ops[i]? = some oi)
    (hs : Region.noSelect ops = true) (hw : allWait md ops N i = true) (hc : shutB md ops listed = true) (hf : Region.free md ops listed i = true) (hr : (Region.ready md ops listed).contains i = true)
    (hQ : ∀ c a w, Q (.panic c) (a.put oi.dst v) w → Q (.panic c) a w) (hy : YieldsIf P ops S oi v a) (hS : S w)
    (h : anyT P md ops Q S N f (listed.setIfInBounds i true) (a.put oi.dst v) w) : anyT P md ops Q S N (f + 1) listed a w :=
  takeT_from hi hs hw hQ f listed a w (shut_of hc) (Region.free_spec hi hf) (by simpa using hr) hy hS h
/-- One operation comes up, and no other one. -/
theorem oneT {listed : Array Bool} {a : Act} {w : World} {f i : Nat} {o : Oper} (hr : Region.ready md ops listed = [i]) (ho : ops[i]? = some o)
    (h : ∀ K' : Act → World → Prop, Shut (∀ a w, (i < N → S w) → anyT P md ops Q S N f (listed.setIfInBounds i true) a w → K' a w) → if Region.wanted o (yielded ops a.tmps) = true then Oper.wp P o a w K' Q else K' (a.put o.dst undef) w) :
    anyT P md ops Q S N (f + 1) listed a w :=
  ⟨fun h0 => (by rw [hr] at h0; cases h0), fun j hj => by
    rw [hr] at hj
    obtain rfl : j = i := by simpa using hj
    exact wpOp_step ho (fun K' hK => h K' (fun a w h1 h2 => hK a w ⟨h1, h2⟩))⟩
/-- One of two comes up. -/
theorem twoT {listed : Array Bool} {a : Act} {w : World} {f i j : Nat} {o o' : Oper} (hr : Region.ready md ops listed = [i, j]) (ho : ops[i]? = some o) (ho' : ops[j]? = some o')
    (h : ∀ K' : Act → World → Prop, Shut (∀ a w, (i < N → S w) → anyT P md ops Q S N f (listed.setIfInBounds i true) a w → K' a w) → if Region.wanted o (yielded ops a.tmps) = true then Oper.wp P o a w K' Q else K' (a.put o.dst undef) w)
    (h' : ∀ K' : Act → World → Prop, Shut (∀ a w, (j < N → S w) → anyT P md ops Q S N f (listed.setIfInBounds j true) a w → K' a w) → if Region.wanted o' (yielded ops a.tmps) = true then Oper.wp P o' a w K' Q else K' (a.put o'.dst undef) w) :
    anyT P md ops Q S N (f + 1) listed a w :=
  ⟨fun h0 => (by rw [hr] at h0; cases h0), fun k hk => by
    rw [hr] at hk
    rcases (show k = i ∨ k = j by simpa using hk) with rfl | rfl
    · exact wpOp_step ho (fun K' hK => h K' (fun a w h1 h2 => hK a w ⟨h1, h2⟩))
    · exact wpOp_step ho' (fun K' hK => h' K' (fun a w h1 h2 => hK a w ⟨h1, h2⟩))⟩
theorem doneT {listed : Array Bool} {a : Act} {w : World} (hr : Region.ready md ops listed = []) (h : Q .normal a w) : ∀ f, anyT P md ops Q S N f listed a w
  | 0 => ⟨hr, h⟩
  | _ + 1 => ⟨fun _ => h, by rw [hr]; simp⟩
theorem doneO {listed : Array Bool} {a : Act} {w : World} (hr : Region.ready md ops listed = []) (h : Q .normal a w) (f : Nat) : anyT P md ops (Only Q) S N f listed a w := doneT (Q := Only Q) hr h f
/-- Behind all operations that keep the condition it is asked no more. -/
theorem laterT (M : Nat) : ∀ (f : Nat) (listed : Array Bool) (a : Act) (w : World), ((List.range N).all fun i => listed.getD i true) = true → anyT P md ops Q (fun _ => True) M f listed a w → anyT P md ops Q S N f listed a w
  | 0, _, _, _, _, h => h
  | f + 1, listed, a, w, hl, h => ⟨h.1, fun i hi => wpOp_mono (fun a' w' h' => ⟨fun hiN => (by
      have h1 := (mem_ready.1 hi).1
      have h2 := List.all_eq_true.1 hl i (List.mem_range.2 hiN)
      rw [h1] at h2
      cases h2), laterT M f _ a' w' (List.all_eq_true.2 fun k hk => by
        have h2 := List.all_eq_true.1 hl k hk
        by_cases e : i = k
        · cases e
          have h1 := (mem_ready.1 hi).1
          rw [h1] at h2
          cases h2
        · rwa [getD_set_ne true e]) h'.2⟩) (h.2 i hi)⟩
/-- Behind all operations that keep the condition another one is asked. -/
theorem laterS (S2 : World → Prop) (M : Nat) : ∀ (f : Nat) (listed : Array Bool) (a : Act) (w : World), ((List.range N).all fun i => listed.getD i true) = true → anyT P md ops Q S2 M f listed a w → anyT P md ops Q S N f listed a w
  | 0, _, _, _, _, h => h
  | f + 1, listed, a, w, hl, h => ⟨h.1, fun i hi => wpOp_mono (fun a' w' h' => ⟨fun hiN => (by
      have h1 := (mem_ready.1 hi).1
      have h2 := List.all_eq_true.1 hl i (List.mem_range.2 hiN)
      rw [h1] at h2
      cases h2), laterS S2 M f _ a' w' (List.all_eq_true.2 fun k hk => by
        have h2 := List.all_eq_true.1 hl k hk
        by_cases e : i = k
        · cases e
          have h1 := (mem_ready.1 hi).1
          rw [h1] at h2
          cases h2
        · rwa [getD_set_ne true e]) h'.2⟩) (h.2 i hi)⟩
/-- The same moves, the operations written out. -/
theorem takeL {l : List Oper} {i : Nat} {oi : Oper} {v : Value} {f : Nat} {listed : Array Bool} {a : Act} {w : World} (hi : l[i]? = some oi)
    (hs : Region.noSelect l.toArray = true) (hw : allWait md l.toArray N i = true) (hc : shutB md l.toArray listed = true) (hf : Region.free md l.toArray listed i = true) (hr : (Region.ready md l.toArray listed).contains i = true)
    (hQ : ∀ c a w, Q (.panic c) (a.put oi.dst v) w → Q (.panic c) a w) (hy : YieldsIf P l.toArray S oi v a) (hS : S w)
    (h : anyT P md l.toArray Q S N f (listed.setIfInBounds i true) (a.put oi.dst v) w) : anyT P md l.toArray Q S N (f + 1) listed a w :=
  takeT (by simpa using hi) hs hw hc hf hr hQ hy hS h
theorem oneL {l : List Oper} {listed : Array Bool} {a : Act} {w : World} {f i : Nat} {o : Oper} (hr : Region.ready md l.toArray listed = [i]) (ho : l[i]? = some o)
    (h : ∀ K' : Act → World → Prop, Shut (∀ a w, (i < N → S w) → anyT P md l.toArray Q S N f (listed.setIfInBounds i true) a w → K' a w) → if Region.wanted o (yielded l.toArray a.tmps) = true then Oper.wp P o a w K' Q else K' (a.put o.dst undef) w) :
    anyT P md l.toArray Q S N (f + 1) listed a w := oneT hr (by simpa using ho) h
theorem twoL {l : List Oper} {listed : Array Bool} {a : Act} {w : World} {f i j : Nat} {o o' : Oper} (hr : Region.ready md l.toArray listed = [i, j]) (ho : l[i]? = some o) (ho' : l[j]? = some o')
    (h : ∀ K' : Act → World → Prop, Shut (∀ a w, (i < N → S w) → anyT P md l.toArray Q S N f (listed.setIfInBounds i true) a w → K' a w) → if Region.wanted o (yielded l.toArray a.tmps) = true then Oper.wp P o a w K' Q else K' (a.put o.dst undef) w)
    (h' : ∀ K' : Act → World → Prop, Shut (∀ a w, (j < N → S w) → anyT P md l.toArray Q S N f (listed.setIfInBounds j true) a w → K' a w) → if Region.wanted o' (yielded l.toArray a.tmps) = true then Oper.wp P o' a w K' Q else K' (a.put o'.dst undef) w) :
    anyT P md l.toArray Q S N (f + 1) listed a w := twoT hr (by simpa using ho) (by simpa using ho') h h'
/-- A region that draws its order. -/
theorem region_T {id : Nat} {a : Act} {w : World} (N : Nat) (S : World → Prop) (hm : P.follows .mixedOrders = true) (hS : S w.drew)
    (h : S w.drew → anyT P .any ops (Only Q) S N ops.size (Array.replicate ops.size false) a w.drew) : (Code.region id ops true).wp P Q a w :=
  Code.wp_mono Only.imp (wp_region_any hm (any_of_T _ _ _ _ (h hS)))
/-- The same, in a round. -/
theorem round_T {id l n : Nat} {a : Act} {w : World} (N : Nat) (S : World → Prop) (hm : P.follows .mixedOrders = true) (hd : noDefer ops = true) (hS : S w.drew)
    (h : S w.drew → anyT P .any ops (Only Q) S N ops.size (Array.replicate ops.size false) a w.drew) : (Code.region id ops true).wpIn (Fence.wide.inRound l) n P Q a w :=
  round_any hm hd (any_of_T _ _ _ _ (h hS))
end
/-- A step that turns one block, or none. -/
theorem turn_row {A B : World} {row : Option Nat} (h : A.grownBy B row) : Turn (fun k => row = some k) A B := (Turn.refl _ A).grown h fun _ e => .inl e
theorem grown_of_below {A B : World} (h : Below A.heap.size A B) : A.grownBy B none := ⟨h.os, h.tape, h.output, h.size, fun k hk _ => h.block k hk⟩
/-- What lies in a block is kept where that is another one. -/
theorem Lies.own {A B : World} {g : Nat} {t : TypeId} {cs : Array Value} {row : Option Nat} (h : Lies A g t cs) (hg : A.grownBy B row) (hr : ∀ r, row = some r → ∃ o : Obj, A.heap[r]? = some o ∧ o.isCells = false) : Lies B g t cs :=
  h.grown hg fun e => by
    obtain ⟨o, ho, hc⟩ := hr g e.symm
    rw [show A.heap[g]? = _ from h] at ho
    cases ho
    cases hc
theorem own_own {A B : World} {base : Nat} {e : TypeId} {size n : Nat} {v : Value} {xs : List Value} {row : Option Nat} (h : A.ownsRow base e size v n xs) (hg : A.grownBy B row) (hr : ∀ r, row = some r → ∃ o : Obj, A.heap[r]? = some o ∧ o.isCells = false) : B.ownsRow base e size v n xs := by
  refine ⟨h.1, ?_⟩
  rcases h.2 with h0 | ⟨g, cap, cur, rfl, hb, hh, r⟩
  · exact .inl h0
  · exact .inr ⟨g, cap, cur, rfl, hb, Lies.own hh hg hr, r⟩
/-- A turn of cells alone keeps whatever is no cells. -/
theorem keeps_of_turn {A B : World} {T : Nat → Prop} (h : Turn T A B) (hT : ∀ k, T k → k < A.heap.size → ∃ t cs, Lies A k t cs) : KeepsOthers A B :=
  ⟨h.size, fun k o hk ho => by
    by_cases hs : T k
    · obtain ⟨t, cs, hl⟩ := hT k hs (Array.getElem?_eq_some_iff.1 hk).1
      rw [show A.heap[k]? = _ from hl] at hk
      cases hk
      cases ho
    · exact (h.block k (Array.getElem?_eq_some_iff.1 hk).1 hs).trans hk⟩
end Go.Proofs.YtkfmkchonlajpaaGreat

namespace Go.Proofs.YtkfmkchonlajpaaGreat
open Go.RowKit

namespace Lo
section
variable {M : Ms.Face}
end
end Lo
end Go.Proofs.YtkfmkchonlajpaaGreat

namespace Go.Proofs.YtkfmkchonlajpaaGreat
open Go.RowKit Go.ChangeShapes Go.WideShapes

theorem own : ownKnob Tryz.prog.godebug = none := by kernel_rfl
set_option maxRecDepth 100000 in
theorem p_arg0_of {H : Type} {enc : TypeId × Value → H} {W : World} {base : Nat} {v : Value} {d : DataW H} {ps : List MemPlace} (hv : Value.okWide Tryz.prog W .any base 25 v) (h : DataW.Trod enc Tryz.prog W 0 (fun _ => true) true 25 v d ps) :
    ∃ x, Lo.InH W v x := Lo.inH_of hv h
set_option maxRecDepth 100000 in
theorem p_arg1_of {H : Type} {enc : TypeId × Value → H} {W : World} {base : Nat} {v : Value} {d : DataW H} {ps : List MemPlace} (hv : Value.okWide Tryz.prog W .any base 26 v) (h : DataW.Trod enc Tryz.prog W 0 (fun _ => true) true 26 v d ps) :
    ∃ x, Lo.InA W v x := Lo.inA_of hv h
set_option maxRecDepth 100000 in
theorem u_arg0_of {H : Type} {enc : TypeId × Value → H} {W : World} {base : Nat} {v : Value} {d : DataW H} {ps : List MemPlace} (hv : Value.okWide Tryz.prog W .any base 35 v) (h : DataW.Trod enc Tryz.prog W 0 (fun _ => true) true 35 v d ps) :
    ∃ x, Lo.InL W v x := Lo.inL_of hv h
set_option maxRecDepth 100000 in
theorem u_arg1_of {H : Type} {enc : TypeId × Value → H} {W : World} {base : Nat} {v : Value} {d : DataW H} {ps : List MemPlace} (hv : Value.okWide Tryz.prog W .any base 3 v) (h : DataW.Trod enc Tryz.prog W 0 (fun _ => true) true 3 v d ps) :
    ∃ x, InI .i64 v x := inI_of Tryz.underlying3 hv h
namespace Lo
theorem plays_of {M : Ms.Face} (I : Face M) (v0 : Value) (y : Hs) (v1 : Value) (z : Sl) (W : World) (w0 : InH W v0 y) (w1 : InA W v1 z) :
    Calls Tryz.prog 3 #[v0, v1] W fun e w' => e = .returned (.bool true) ∧ Below W.heap.size W w' := by
  obtain ⟨rfl, hb0, hb1, ⟨l, hl⟩, k, hk⟩ := w0
  obtain ⟨rfl, hnc, hb2, a, ha, hok⟩ := w1
  by_cases hn : 60 < y.n ∨ 60 < y.m ∨ 60 < z.n
  · exact plays_long I y.p y.n y.c y.q y.m y.d z.p z.n z.c W hb0 hb1 hb2 hn
  · exact plays_short M I y.p y.n y.c y.q y.m y.d z.p z.n z.c l k a W (by omega) (by omega) (by omega) hnc hl hk ha hok
end Lo
end Go.Proofs.YtkfmkchonlajpaaGreat

namespace Go.Proofs.YtkfmkchonlajpaaGreat
open Go.RowKit Go.Maps

namespace Lo
/-- A lot's value: its numbers, and where its stays lie. -/
structure Lr where
  id : Int
  product : Int
  units : Int
  expiry : Int
  grant : Int
  order : Int
  status : Int
  p : Option Addr
  n : Nat
  c : Nat
def raw (y : Lv) : Lr := ⟨y.x.id, y.x.product, y.x.units, y.x.expiry, y.x.grant, y.x.order, y.x.status, y.p, y.n, y.c⟩
def rval (r : Lr) : Value := .agg #[.int .i64 r.id, .int .i64 r.product, .int .i64 r.units, .int .i64 r.expiry, .int .i64 r.grant, .int .i64 r.order, .int .i64 r.status, .slice r.p r.n r.c]
theorem rval_raw (y : Lv) : rval (raw y) = lval y := rfl
def ndat (n : Nat) : DataW Unit := .lit (.int .i64 n)
def pdat : Option Addr → DataW Unit
  | none => .nil
  | some ⟨b, o, none⟩ => .agg [ndat b, ndat o]
  | some ⟨b, o, some k⟩ => .agg [ndat b, ndat o, ndat k]
theorem ndat_inj {a b : Nat} (h : ndat a = ndat b) : a = b := by
  simp only [ndat, DataW.lit.injEq, Lit.int.injEq, true_and] at h
  omega
theorem pdat_inj : ∀ {p q : Option Addr}, pdat p = pdat q → p = q
  | none, none, _ => rfl
  | none, some ⟨_, _, none⟩, h => by cases h
  | none, some ⟨_, _, some _⟩, h => by cases h
  | some ⟨_, _, none⟩, none, h => by cases h
  | some ⟨_, _, some _⟩, none, h => by cases h
  | some ⟨b, o, none⟩, some ⟨b2, o2, none⟩, h => by
    simp only [pdat, DataW.agg.injEq, List.cons.injEq, and_true] at h
    rw [ndat_inj h.1, ndat_inj h.2]
  | some ⟨_, _, none⟩, some ⟨_, _, some _⟩, h => by simp [pdat] at h
  | some ⟨_, _, some _⟩, some ⟨_, _, none⟩, h => by simp [pdat] at h
  | some ⟨b, o, some k⟩, some ⟨b2, o2, some k2⟩, h => by
    simp only [pdat, DataW.agg.injEq, List.cons.injEq, and_true] at h
    rw [ndat_inj h.1, ndat_inj h.2.1, ndat_inj h.2.2]
def rdat (r : Lr) : DataW Unit := .agg [.lit (.int .i64 r.id), .lit (.int .i64 r.product), .lit (.int .i64 r.units), .lit (.int .i64 r.expiry), .lit (.int .i64 r.grant), .lit (.int .i64 r.order), .lit (.int .i64 r.status), pdat r.p, ndat r.n, ndat r.c]
theorem lr_ext {x y : Lr} (h : x.id = y.id ∧ x.product = y.product ∧ x.units = y.units ∧ x.expiry = y.expiry ∧ x.grant = y.grant ∧ x.order = y.order ∧ x.status = y.status ∧ x.p = y.p ∧ x.n = y.n ∧ x.c = y.c) : x = y := by
  cases x
  cases y
  simp only at h
  obtain ⟨rfl, rfl, rfl, rfl, rfl, rfl, rfl, rfl, rfl, rfl⟩ := h
  rfl
def Lf : Ms.Form Lr := ⟨rval, rdat, fun {x y} h => by
  simp only [rval, Value.agg.injEq, Array.mk.injEq, List.cons.injEq, Value.int.injEq, Value.slice.injEq, true_and, and_true] at h
  exact lr_ext h, fun {x y} h => by
  simp only [rdat, DataW.agg.injEq, List.cons.injEq, DataW.lit.injEq, Lit.int.injEq, true_and, and_true] at h
  obtain ⟨h1, h2, h3, h4, h5, h6, h7, h8, h9, h10⟩ := h
  exact lr_ext ⟨h1, h2, h3, h4, h5, h6, h7, pdat_inj h8, ndat_inj h9, ndat_inj h10⟩⟩
def lr0 : Lr := ⟨0, 0, 0, 0, 0, 0, 0, none, 0, 0⟩
theorem zeroL (W : World) : (zeroValue 50).run Tryz.prog W = .ok (Lf.enc lr0) W := by kernel_rfl
/-- A list's numbers differ. -/
def Apt (S : List Lr) : Prop := S.Pairwise fun a b => a.id ≠ b.id
theorem apt_ne {S : List Lr} (h : Apt S) {i j : Nat} {x y : Lr} (hx : S[i]? = some x) (hy : S[j]? = some y) (hij : i ≠ j) : x.id ≠ y.id := by
  obtain ⟨h1, e1⟩ := List.getElem?_eq_some_iff.1 hx
  obtain ⟨h2, e2⟩ := List.getElem?_eq_some_iff.1 hy
  rw [← e1, ← e2]
  rcases Nat.lt_or_gt_of_ne hij with h3 | h3
  · exact List.pairwise_iff_getElem.1 h i j h1 h2 h3
  · exact (List.pairwise_iff_getElem.1 h j i h2 h1 h3).symm
/-- One more at the end. -/
theorem mp_app {D : DataW Unit} {S : List Lr} (h : Ms.Mp Lf Lr.id D S) (ht : Maps.Tidy D) {x : Lr} (hn : ∀ y ∈ S, y.id ≠ x.id) : Ms.Mp Lf Lr.id (D.put (.int .i64 x.id) (rdat x)) (S ++ [x]) := by
  refine ⟨fun y hy z => ?_, fun n hh => ?_, ?_⟩
  · rcases List.mem_append.1 hy with hy | hy
    · rw [Maps.atKey_put_other (Ms.lit_ne (hn y hy))]
      exact h.each y hy z
    · rw [List.mem_singleton.1 hy]
      exact Maps.atKey_put_same ht.isMap (Ms.key_lit _) _ _
  · by_cases e : n = x.id
    · exact ⟨x, by simp, e.symm⟩
    · rw [Maps.has_put_other (Ms.lit_ne e)] at hh
      obtain ⟨y, hy, e2⟩ := h.only n hh
      exact ⟨y, List.mem_append.2 (.inl hy), e2⟩
  · have hno : Maps.has D (.int .i64 x.id) = false := by
      cases hb : Maps.has D (.int .i64 x.id)
      · rfl
      · obtain ⟨y, hy, e⟩ := h.only _ hb
        exact absurd e (hn y hy)
    rw [Maps.size_put ht, if_neg (by rw [hno]; exact Bool.false_ne_true), h.size]
    simp
/-- Another one of its number in its place. -/
theorem mp_set {D : DataW Unit} {S : List Lr} (h : Ms.Mp Lf Lr.id D S) (ht : Maps.Tidy D) (hS : Apt S) {i : Nat} {x y : Lr} (hi : S[i]? = some y) (he : y.id = x.id) : Ms.Mp Lf Lr.id (D.put (.int .i64 x.id) (rdat x)) (S.set i x) := by
  have hl := (List.getElem?_eq_some_iff.1 hi).1
  refine ⟨fun z hz v => ?_, fun n hh => ?_, ?_⟩
  · obtain ⟨j, hj⟩ := List.mem_iff_getElem?.1 hz
    by_cases hji : j = i
    · subst hji
      rw [List.getElem?_set_self hl] at hj
      rw [← Option.some.inj hj]
      exact Maps.atKey_put_same ht.isMap (Ms.key_lit _) _ _
    · rw [List.getElem?_set_ne (fun e => hji e.symm)] at hj
      rw [Maps.atKey_put_other (Ms.lit_ne (by rw [← he]; exact apt_ne hS hj hi hji))]
      exact h.each z (List.mem_of_getElem? hj) v
  · by_cases e : n = x.id
    · exact ⟨x, List.mem_of_getElem? (List.getElem?_set_self hl), e.symm⟩
    · rw [Maps.has_put_other (Ms.lit_ne e)] at hh
      obtain ⟨z, hz, e2⟩ := h.only n hh
      obtain ⟨j, hj⟩ := List.mem_iff_getElem?.1 hz
      refine ⟨z, List.mem_of_getElem? (i := j) ?_, e2⟩
      rw [List.getElem?_set_ne]
      · exact hj
      · intro hij
        subst hij
        rw [hi] at hj
        rw [← Option.some.inj hj] at e2
        omega
  · have hyes : Maps.has D (.int .i64 x.id) = true := by
      rw [← he]
      exact Maps.has_true_of_atKey (h.each y (List.mem_of_getElem? hi))
    rw [Maps.size_put ht, if_pos hyes, h.size]
    simp
/-- One less. -/
theorem mp_del {D : DataW Unit} {S : List Lr} (h : Ms.Mp Lf Lr.id D S) (ht : Maps.Tidy D) (hS : Apt S) {i : Nat} {y : Lr} (hi : S[i]? = some y) : Ms.Mp Lf Lr.id (D.del (.int .i64 y.id)) (S.eraseIdx i) := by
  have hl := (List.getElem?_eq_some_iff.1 hi).1
  refine ⟨fun z hz v => ?_, fun n hh => ?_, ?_⟩
  · obtain ⟨j, hj, hj2⟩ := List.mem_eraseIdx_iff_getElem?.1 hz
    rw [Maps.atKey_del_other (Ms.lit_ne (apt_ne hS hj2 hi hj))]
    exact h.each z (List.mem_of_getElem? hj2) v
  · by_cases e : n = y.id
    · subst e
      rw [Maps.has_del_same] at hh
      cases hh
    · rw [Maps.has_del_other (Ms.lit_ne e)] at hh
      obtain ⟨z, hz, e2⟩ := h.only n hh
      obtain ⟨j, hj⟩ := List.mem_iff_getElem?.1 hz
      refine ⟨z, List.mem_eraseIdx_iff_getElem?.2 ⟨j, fun e3 => ?_, hj⟩, e2⟩
      subst e3
      rw [hi] at hj
      rw [← Option.some.inj hj] at e2
      omega
  · have hyes : Maps.has D (.int .i64 y.id) = true := Maps.has_true_of_atKey (h.each y (List.mem_of_getElem? hi))
    have h1 := Maps.size_del (k := .int .i64 y.id) ht
    rw [if_pos hyes, h.size] at h1
    rw [List.length_eraseIdx_of_lt hl]
    omega
/-- What a number holds. -/
theorem tlookL {w : World} {B : Nat} {mo : Option Nat} {S : List Lr} (ht : Ms.Tab Lf Lr.id w B mo S) {m : Int} (hm : Ms.In64 m) (W : World) (hW : Below w.heap.size w W) :
    (Instr.lookup 74 (.map mo) (.int .i64 m) true).run Tryz.prog W = .ok (.tuple #[rval ((Ms.findK Lr.id m S).getD lr0), .bool (Ms.findK Lr.id m S).isSome]) W := by
  rcases ht with ⟨rfl, rfl⟩ | ⟨b, D, rfl, _, hown, hM⟩
  · rw [Maps.look_nil true Ms.lawI Tryz.underlying74 (zeroL W) (Ms.key_of hm)]
    rfl
  · exact Ms.look Tryz.underlying74 lr0 zeroL hown hM hm W (hW.block b hown.lt)
theorem tlook1L {w : World} {B : Nat} {mo : Option Nat} {S : List Lr} (ht : Ms.Tab Lf Lr.id w B mo S) {m : Int} (hm : Ms.In64 m) (W : World) (hW : Below w.heap.size w W) :
    (Instr.lookup 74 (.map mo) (.int .i64 m) false).run Tryz.prog W = .ok (rval ((Ms.findK Lr.id m S).getD lr0)) W := by
  rcases ht with ⟨rfl, rfl⟩ | ⟨b, D, rfl, _, hown, hM⟩
  · rw [Maps.look_nil false Ms.lawI Tryz.underlying74 (zeroL W) (Ms.key_of hm)]
    rfl
  · exact Ms.look1 Tryz.underlying74 lr0 zeroL hown hM hm W (hW.block b hown.lt)
/-- Lots' numbers, and where they stand. -/
theorem find_at (id : Int) : ∀ (L : List Lv), Ms.findK Lr.id id (L.map raw) = (at_ id (lts L)).bind fun i => (L[i]?).map raw
  | [] => rfl
  | y :: L => by
    have ih := find_at id L
    simp only [List.map_cons, Ms.findK, lts, at_] at *
    by_cases h : y.x.id = id
    · rw [if_pos h, if_pos (show (raw y).id = id from h)]
      rfl
    · rw [if_neg h, if_neg (show ¬ (raw y).id = id from h), ih]
      cases at_ id (L.map Lv.x) <;> rfl
end Lo
end Go.Proofs.YtkfmkchonlajpaaGreat

namespace Go.Proofs.YtkfmkchonlajpaaGreat
open Go.RowKit

namespace Sy
/-- A stay's cells. -/
theorem rw_at {w : World} {p : Option Addr} {n : Nat} {S : List Sy} (h : Rw 3 scells w p n S) {k : Nat} {x : Sy} (hx : S[k]? = some x) :
    ∃ b o, p = some ⟨b, o, none⟩ ∧ w.cell? ⟨b, o + k * 3, none⟩ = some (.int .i64 x.zone) ∧ w.cell? ⟨b, o + k * 3 + 1, none⟩ = some (.int .i64 x.frm) ∧ w.cell? ⟨b, o + k * 3 + 2, none⟩ = some (.int .i64 x.to) := by
  have hk : k < S.length := (List.getElem?_eq_some_iff.1 hx).1
  obtain ⟨b, o, e, hc⟩ := h.2 (by rw [← h.1]; omega)
  exact ⟨b, o, e, hc k x hx 0 (by decide), hc k x hx 1 (by decide), hc k x hx 2 (by decide)⟩
/-- What stands ahead of the one that a loop is at is as it may be. -/
def Ahead (S : List Sy) (k : Nat) : Prop := ∀ i s, i < k → S[i]? = some s → 1 ≤ s.zone ∧ 0 ≤ s.frm ∧ (s.frm < s.to ∨ s.to = -1) ∧ ∀ t, 0 < i → S[i - 1]? = some t → s.frm = t.to
theorem ahead_zero (S : List Sy) : Ahead S 0 := fun i s h => by omega
theorem ahead_next {S : List Sy} {k : Nat} {x : Sy} (h : Ahead S k) (hx : S[k]? = some x) (h1 : 1 ≤ x.zone ∧ 0 ≤ x.frm ∧ (x.frm < x.to ∨ x.to = -1) ∧ ∀ t, 0 < k → S[k - 1]? = some t → x.frm = t.to) : Ahead S (k + 1) := fun i s hi hs => by
  by_cases hlt : i < k
  · exact h i s hlt hs
  · obtain rfl : i = k := by omega
    rw [hx] at hs
    rw [← Option.some.inj hs]
    exact h1
theorem ahead_all {S : List Sy} (h : Ahead S S.length) : rightB S = true := rightB_iff.2 fun i s hs => h i s (List.getElem?_eq_some_iff.1 hs).1 hs
set_option maxRecDepth 100000 in
set_option maxHeartbeats 8000000 in
theorem pright_any (p : Option Addr) (n c : Nat) (S : List Sy) (w : World) (h : Rw 3 scells w p n S) (hn : n ≤ 1000000) :
    Calls Tryz.prog 71 #[.slice p n c] w fun e w' => e = .returned (.bool (rightB S)) ∧ Below w.heap.size w w' := by
  have hn' : (n : Int) ≤ 1000000 := by omega
  have H := Lib.hid h
  have HN := Lib.hid h.1
  have B0 := Lib.hid (Below.refl w.heap.size w)
  clear h
  go_enter Tryz.func71, Tryz.ntmps71
  go_wp2_with fail
  go_loopw [7] (fun i wr => ∃ k : Nat, k ≤ n ∧ i = .int .i64 k ∧ Hid (Below w.heap.size w wr) ∧ Hid (Ahead S k)) (fun i _ => n - (RowKit.intOf i).toNat)
  case atStart => exact ⟨0, Nat.zero_le _, rfl, B0, Lib.hid (ahead_zero S)⟩
  case round =>
    clear B0
    obtain ⟨k, hk, rfl, HB, HA⟩ := hrel
    by_cases hlt : k < n
    · obtain ⟨x, hx⟩ : ∃ x, S[k]? = some x := ⟨_, List.getElem?_eq_getElem (by rw [HN.out]; exact hlt)⟩
      obtain ⟨b, o, rfl, e0, e1, e2⟩ := rw_at (H.out.keep scells_len HB.out) hx
      have hk3 : (k : Int) < (n : Int) := by omega
      have HX := Lib.hid hx
      have B1 := Lib.hid (HB.out.alloc (HB.out.size) (.cells (scells x).toArray 71))
      have hbad : ¬ (1 ≤ x.zone ∧ 0 ≤ x.frm ∧ (x.frm < x.to ∨ x.to = -1)) → Hid (rightB S = false) := fun h => Lib.hid (right_bad HX.out (fun hh => h ⟨hh.1, hh.2.1, hh.2.2.1⟩))
      have lb := World.block_lt_of_cell? wr _ e0
      by_cases hz : 1 ≤ x.zone
      · by_cases hf : 0 ≤ x.frm
        · by_cases ht : x.frm < x.to ∨ x.to = -1
          · rcases Nat.lt_or_ge 0 k with hk0 | hk0
            · obtain ⟨y, hy⟩ : ∃ y, S[k - 1]? = some y := ⟨_, List.getElem?_eq_getElem (by rw [HN.out]; omega)⟩
              obtain ⟨b', o', eq, _, _, f2⟩ := rw_at (H.out.keep scells_len HB.out) hy
              cases eq
              have gk : decide (0 < k) = true := by simp; omega
              have hw2 : IntKind.i64.wrap ((k : Int) - 1) = ((k - 1 : Nat) : Int) := by rw [show (k : Int) - 1 = ((k - 1 : Nat) : Int) by omega]; exact IntWalk.i64_in _ (by omega)
              have hj3 : ((k - 1 : Nat) : Int) < (n : Int) := by omega
              have HY := Lib.hid hy
              obtain ⟨j, hj⟩ : ∃ j, k - 1 = j := ⟨_, rfl⟩
              rw [hj] at hw2 hj3 f2
              have HJ := Lib.hid hj
              clear hj
              by_cases hq : x.frm = y.to
              · have A1 := Lib.hid (ahead_next HA.out HX.out ⟨hz, hf, ht, fun t _ h1 => by rw [HY.out] at h1; rw [← Option.some.inj h1]; exact hq⟩)
                have tq : (x.frm != y.to) = false := by simp [hq]
                clear hbad hx hy hq
                rcases ht with ht | ht
                · have tt : ¬ x.to ≤ x.frm := by omega
                  go_wp2_with fail
                  go_quiet (fail)
                  go_wp2
                  go_roundw
                  case rel => exact ⟨k + 1, by omega, by go_num, Lib.hid (below_drewN B1.out _), A1⟩
                  case measure => simp [RowKit.intOf]; omega
                · by_cases htt : x.frm < x.to
                  · have tt : ¬ x.to ≤ x.frm := by omega
                    clear ht
                    go_wp2_with fail
                    go_quiet (fail)
                    go_wp2
                    go_roundw
                    case rel => exact ⟨k + 1, by omega, by go_num, Lib.hid (below_drewN B1.out _), A1⟩
                    case measure => simp [RowKit.intOf]; omega
                  · have tt : x.to ≤ x.frm := by omega
                    have te : (x.to != -1) = false := by simp [ht]
                    clear ht htt
                    go_wp2_with fail
                    go_quiet (fail)
                    go_wp2
                    go_roundw
                    case rel => exact ⟨k + 1, by omega, by go_num, Lib.hid (below_drewN B1.out _), A1⟩
                    case measure => simp [RowKit.intOf]; omega
              · have HR := Lib.hid (right_bad HX.out (fun hh => hq (hh.2.2.2 y hk0 HY.out)))
                have tq : (x.frm != y.to) = true := by simp [hq]
                clear hbad hx hy hq
                rcases ht with ht | ht
                · have tt : ¬ x.to ≤ x.frm := by omega
                  go_wp2_with fail
                  go_quiet (fail)
                  go_wp2
                  go_ret
                  exact ⟨by rw [HR.out]; rfl, below_drewN B1.out _⟩
                · by_cases htt : x.frm < x.to
                  · have tt : ¬ x.to ≤ x.frm := by omega
                    clear ht
                    go_wp2_with fail
                    go_quiet (fail)
                    go_wp2
                    go_ret
                    exact ⟨by rw [HR.out]; rfl, below_drewN B1.out _⟩
                  · have tt : x.to ≤ x.frm := by omega
                    have te : (x.to != -1) = false := by simp [ht]
                    clear ht htt
                    go_wp2_with fail
                    go_quiet (fail)
                    go_wp2
                    go_ret
                    exact ⟨by rw [HR.out]; rfl, below_drewN B1.out _⟩
            · have A1 := Lib.hid (ahead_next HA.out HX.out ⟨hz, hf, ht, fun t h0 => by omega⟩)
              have gk : decide (0 < k) = false := by simp; omega
              have hkk := Lib.hid hk0
              clear hbad hx hk0
              rcases ht with ht | ht
              · have tt : ¬ x.to ≤ x.frm := by omega
                go_wp2_with fail
                go_quiet (fail)
                go_wp2
                go_roundw
                case rel => exact ⟨k + 1, by omega, by go_num, Lib.hid (below_drewN B1.out _), A1⟩
                case measure => simp [RowKit.intOf]; omega
              · by_cases htt : x.frm < x.to
                · have tt : ¬ x.to ≤ x.frm := by omega
                  clear ht
                  go_wp2_with fail
                  go_quiet (fail)
                  go_wp2
                  go_roundw
                  case rel => exact ⟨k + 1, by omega, by go_num, Lib.hid (below_drewN B1.out _), A1⟩
                  case measure => simp [RowKit.intOf]; omega
                · have tt : x.to ≤ x.frm := by omega
                  have te : (x.to != -1) = false := by simp [ht]
                  clear ht htt
                  go_wp2_with fail
                  go_quiet (fail)
                  go_wp2
                  go_roundw
                  case rel => exact ⟨k + 1, by omega, by go_num, Lib.hid (below_drewN B1.out _), A1⟩
                  case measure => simp [RowKit.intOf]; omega
          · have HR := hbad (fun hh => ht hh.2.2)
            have tt : x.to ≤ x.frm := by omega
            have te : (x.to != -1) = true := by simp; omega
            clear hbad hx ht
            go_wp2
            go_ret
            exact ⟨by rw [HR.out]; rfl, B1.out⟩
        · have hf' : x.frm < 0 := by omega
          have HR := hbad (fun hh => hf hh.2.1)
          clear hbad hx hf
          go_wp2
          go_ret
          exact ⟨by rw [HR.out]; rfl, B1.out⟩
      · have hz' : x.zone < 1 := by omega
        have HR := hbad (fun hh => hz hh.1)
        clear hbad hx hz
        go_wp2
        go_ret
        exact ⟨by rw [HR.out]; rfl, B1.out⟩
    · obtain rfl : k = n := by omega
      have HE := Lib.hid (ahead_all (by rw [HN.out]; exact HA.out))
      go_wp2
      go_ret
      exact ⟨by rw [HE.out]; rfl, HB.out⟩
end Sy
end Go.Proofs.YtkfmkchonlajpaaGreat

namespace Go.Proofs.YtkfmkchonlajpaaGreat
open Go.RowKit

namespace Sy
def onB (S : List Sy) : Bool := match S.getLast? with | none => false | some s => decide (s.to = -1)
theorem on_B {S : List Sy} : onB S = true ↔ On S := by
  rcases ends_of S with rfl | ⟨A, s, rfl⟩
  · constructor
    · intro h
      cases h
    · rintro ⟨A, x, h, _⟩
      simp at h
  · unfold onB
    rw [List.getLast?_concat]
    constructor
    · intro h
      exact ⟨A, s, rfl, by simpa using h⟩
    · rintro ⟨B, x, h, hx⟩
      have := (List.append_inj' h rfl).2
      simp only [List.cons.injEq, and_true] at this
      subst this
      simp [hx]
theorem on_no {S : List Sy} (h : ¬ On S) : onB S = false := by
  cases hb : onB S
  · rfl
  · exact absurd (on_B.1 hb) h
theorem last_at {S : List Sy} {n : Nat} (hn : S.length = n) (h0 : 0 < n) : ∃ x, S[n - 1]? = some x ∧ S.getLast? = some x := by
  have : n - 1 < S.length := by omega
  exact ⟨_, List.getElem?_eq_getElem this, by rw [List.getLast?_eq_getElem?, hn, List.getElem?_eq_getElem this]⟩
set_option maxRecDepth 100000 in
set_option maxHeartbeats 4000000 in
theorem pon_any (p : Option Addr) (n c : Nat) (S : List Sy) (w : World) (h : Rw 3 scells w p n S) (hn : n ≤ 1000000) :
    Calls Tryz.prog 81 #[.slice p n c] w fun e w' => e = .returned (.bool (onB S)) ∧ w = w' := by
  have hn' : (n : Int) ≤ 1000000 := by omega
  rcases Nat.lt_or_ge 0 n with h0 | h0
  · obtain ⟨x, hx, hl⟩ := last_at h.1 h0
    obtain ⟨b, o, rfl, e0, e1, e2⟩ := rw_at h hx
    have gk : decide (0 < n) = true := by simp; omega
    have hw2 : IntKind.i64.wrap ((n : Int) - 1) = ((n - 1 : Nat) : Int) := by rw [show (n : Int) - 1 = ((n - 1 : Nat) : Int) by omega]; exact IntWalk.i64_in _ (by omega)
    have hj3 : ((n - 1 : Nat) : Int) < (n : Int) := by omega
    have HO : Hid (onB S = decide (x.to = -1)) := Lib.hid (by unfold onB; rw [hl])
    clear h hx hl e0 e1
    obtain ⟨j, hj⟩ : ∃ j, n - 1 = j := ⟨_, rfl⟩
    rw [hj] at hw2 hj3 e2
    clear hj
    by_cases ht : x.to = -1
    · have te : (x.to == -1) = true := by simp [ht]
      have HE : Hid (onB S = true) := Lib.hid (by rw [HO.out]; simp [ht])
      clear ht HO
      go_enter Tryz.func81, Tryz.ntmps81
      go_wp2
      go_ret
      exact ⟨by rw [HE.out]; rfl, rfl⟩
    · have te : (x.to == -1) = false := by simp [ht]
      have HE : Hid (onB S = false) := Lib.hid (by rw [HO.out]; simp [ht])
      clear ht HO
      go_enter Tryz.func81, Tryz.ntmps81
      go_wp2
      go_ret
      exact ⟨by rw [HE.out]; rfl, rfl⟩
  · obtain rfl : n = 0 := by omega
    have hS := List.eq_nil_of_length_eq_zero h.1
    subst hS
    clear h
    go_enter Tryz.func81, Tryz.ntmps81
    go_wp2
    go_ret
    exact ⟨rfl, rfl⟩
/-- May something be done now with stays that may be? -/
def mayB (S : List Sy) (now : Int) : Bool := match S.getLast? with | none => decide (0 ≤ now) | some s => if s.to = -1 then decide (s.frm ≤ now) else decide (now = s.to)
theorem may_B {S : List Sy} {now : Int} (h : Right S) : mayB S now = true ↔ May S now := by
  rcases ends_of S with rfl | ⟨A, s, rfl⟩
  · constructor
    · intro hb
      exact ⟨h, by simpa [mayB] using hb, fun s hs => by cases hs⟩
    · intro hm
      have := hm.2.1
      simpa [mayB] using this
  · unfold mayB
    rw [List.getLast?_concat]
    simp only
    obtain ⟨h1, h2, h3, h4, h5⟩ := right_snoc.1 h
    constructor
    · intro hb
      by_cases hc : s.to = -1
      · rw [if_pos hc, decide_eq_true_eq] at hb
        refine ⟨h, by omega, fun x hx => ?_⟩
        rw [List.getLast?_concat] at hx
        rw [← Option.some.inj hx]
        exact .inl ⟨hc, hb⟩
      · rw [if_neg hc, decide_eq_true_eq] at hb
        refine ⟨h, by omega, fun x hx => ?_⟩
        rw [List.getLast?_concat] at hx
        rw [← Option.some.inj hx]
        exact .inr hb.symm
    · intro hm
      rcases may_last hm with ⟨e, hf⟩ | e
      · rw [if_pos e, decide_eq_true_eq]
        exact hf
      · have := hm.2.1
        rw [if_neg (by omega), decide_eq_true_eq]
        exact e.symm
theorem may_no {S : List Sy} {now : Int} (h : Right S) (hm : ¬ May S now) : mayB S now = false := by
  cases hb : mayB S now
  · rfl
  · exact absurd ((may_B h).1 hb) hm
set_option maxRecDepth 100000 in
set_option maxHeartbeats 8000000 in
theorem pmay_any (p : Option Addr) (n c : Nat) (S : List Sy) (now : Int) (w : World) (h : Rw 3 scells w p n S) (hn : n ≤ 1000000) :
    Calls Tryz.prog 77 #[.slice p n c, .int .i64 now] w fun e w' => e = .returned (.bool (mayB S now)) ∧ w = w' := by
  have hn' : (n : Int) ≤ 1000000 := by omega
  rcases Nat.lt_or_ge 0 n with h0 | h0
  · obtain ⟨x, hx, hl⟩ := last_at h.1 h0
    have CO := Lib.hid (fun W (hW : Rw 3 scells W p n S) => pon_any p n c S W hW hn)
    have HR := Lib.hid h
    obtain ⟨b, o, rfl, e0, e1, e2⟩ := rw_at h hx
    have hne : ((n : Int) == 0) = false := by simp; omega
    have hw2 : IntKind.i64.wrap ((n : Int) - 1) = ((n - 1 : Nat) : Int) := by rw [show (n : Int) - 1 = ((n - 1 : Nat) : Int) by omega]; exact IntWalk.i64_in _ (by omega)
    have hw3 : (n : Int) - 1 = ((n - 1 : Nat) : Int) := by omega
    have hj3 : ((n - 1 : Nat) : Int) < (n : Int) := by omega
    have HO : Hid (onB S = decide (x.to = -1)) := Lib.hid (by unfold onB; rw [hl])
    have HM : Hid (mayB S now = if x.to = -1 then decide (x.frm ≤ now) else decide (now = x.to)) := Lib.hid (by unfold mayB; rw [hl])
    clear h hx hl e0
    obtain ⟨j, hj⟩ : ∃ j, n - 1 = j := ⟨_, rfl⟩
    rw [hj] at hw2 hw3 hj3 e2 e1
    clear hj
    by_cases ht : x.to = -1
    · have HE : Hid (onB S = true) := Lib.hid (by rw [HO.out]; simp [ht])
      have HF : Hid (mayB S now = decide (x.frm ≤ now)) := Lib.hid (by rw [HM.out, if_pos ht])
      rw [HF.out]
      clear ht HO HM
      go_enter Tryz.func77, Tryz.ntmps77
      go_wp2_with fail
      refine (CO.out _ HR.out).mono ?_
      rintro e w1 ⟨rfl, rfl⟩
      rw [HE.out]
      clear CO HR HE HF
      go_wp2
      go_ret
      exact ⟨by simp, rfl⟩
    · have HE : Hid (onB S = false) := Lib.hid (by rw [HO.out]; simp [ht])
      have HF : Hid (mayB S now = decide (now = x.to)) := Lib.hid (by rw [HM.out, if_neg ht])
      rw [HF.out]
      clear ht HO HM
      go_enter Tryz.func77, Tryz.ntmps77
      go_wp2_with fail
      refine (CO.out _ HR.out).mono ?_
      rintro e w1 ⟨rfl, rfl⟩
      rw [HE.out]
      clear CO HR HE HF
      go_wp2
      go_ret
      exact ⟨by simp; rw [Bool.eq_iff_iff]; simp, rfl⟩
  · obtain rfl : n = 0 := by omega
    have hS := List.eq_nil_of_length_eq_zero h.1
    subst hS
    clear h
    go_enter Tryz.func77, Tryz.ntmps77
    go_wp2
    go_ret
    exact ⟨by simp [mayB], rfl⟩
end Sy
end Go.Proofs.YtkfmkchonlajpaaGreat

namespace Go.Proofs.YtkfmkchonlajpaaGreat
open Go.RowKit

namespace Sy
/-- Which one has a minute. -/
def Placed (S : List Sy) (m r : Int) : Prop := (r = -1 ∧ S.find? (has m) = none) ∨ ∃ (k : Nat) (x : Sy), r = k ∧ S[k]? = some x ∧ S.find? (has m) = some x
def PlaceEnd (S : List Sy) (m : Int) (w : World) (e : Ending) (w' : World) : Prop := ∃ r : Int, Placed S m r ∧ e = .returned (.int .i64 r) ∧ Below w.heap.size w w'
/-- None of the first ones has it. -/
def Nones (S : List Sy) (m : Int) (k : Nat) : Prop := ∀ i s, i < k → S[i]? = some s → has m s = false
theorem find_at {S : List Sy} {m : Int} {k : Nat} {x : Sy} (h : Nones S m k) (hx : S[k]? = some x) (hh : has m x = true) : S.find? (has m) = some x := by
  have hk := (List.getElem?_eq_some_iff.1 hx)
  obtain ⟨hlt, e⟩ := hk
  rw [List.find?_eq_some_iff_append]
  refine ⟨hh, S.take k, S.drop (k + 1), ?_, fun a ha => ?_⟩
  · rw [← e, ← List.drop_eq_getElem_cons hlt, List.take_append_drop]
  · obtain ⟨i, hi⟩ := List.mem_iff_getElem?.1 ha
    have hik : i < k := by
      have := (List.getElem?_eq_some_iff.1 hi).1
      rw [List.length_take] at this
      omega
    rw [List.getElem?_take_of_lt hik] at hi
    simp [h i a hik hi]
theorem find_no {S : List Sy} {m : Int} (h : Nones S m S.length) : S.find? (has m) = none := by
  rw [List.find?_eq_none]
  intro s hs
  obtain ⟨i, hi⟩ := List.mem_iff_getElem?.1 hs
  simp [h i s (List.getElem?_eq_some_iff.1 hi).1 hi]
theorem nones_next {S : List Sy} {m : Int} {k : Nat} {x : Sy} (h : Nones S m k) (hx : S[k]? = some x) (hh : has m x = false) : Nones S m (k + 1) := fun i s hi hs => by
  by_cases hlt : i < k
  · exact h i s hlt hs
  · obtain rfl : i = k := by omega
    rw [hx] at hs
    rw [← Option.some.inj hs]
    exact hh
theorem has_no {m : Int} {s : Sy} (h : ¬ (s.frm ≤ m ∧ (s.to = -1 ∨ m < s.to))) : has m s = false := by
  cases hb : has m s
  · rfl
  · exact absurd (has_iff.1 hb) h
theorem nones_rest {S : List Sy} (hR : Right S) {m : Int} {k : Nat} {x : Sy} (h : Nones S m k) (hx : S[k]? = some x) (hm : m < x.frm) : Nones S m S.length := fun i s _ hs => by
  by_cases hlt : i < k
  · exact h i s hlt hs
  · have := rights_le hR hx (i - k) s (by rw [show k + (i - k) = i by omega]; exact hs)
    exact has_no (fun hh => by omega)
end Sy
end Go.Proofs.YtkfmkchonlajpaaGreat

namespace Go.Proofs.YtkfmkchonlajpaaGreat
open Go.RowKit

/-- What a row holds when cells were copied into it. -/
def spl (cur : Array Value) (o : Nat) (cs : List Value) : Array Value := (cur.toList.take o ++ cs ++ cur.toList.drop (o + cs.length)).toArray
theorem spl_size (cur : Array Value) (o : Nat) (cs : List Value) (h : o + cs.length ≤ cur.size) : (spl cur o cs).size = cur.size := by
  simp [spl]
  omega
/-- copy, of things of any size in cells, into a block that is known whole. -/
theorem run_copy_lies {P : Program} (w : World) (dT sT ty elem : TypeId) (k g o dLen dCap : Nat) (a : Addr) (sLen sCap : Nat) (cur : Array Value) (t : TypeId) (cs : List Value)
    (hu : P.underlying dT = some (.slice elem)) (hs : (P.info? elem).map (·.size) = some k)
    (hg : Lies w g t cur) (hn : cs.length = Nat.min sLen dLen * k)
    (hsrc : ∀ j v, cs[j]? = some v → w.cell? (a.add j) = some v) (hfit : o + cs.length ≤ cur.size) (h1 : ∀ v ∈ cs, v.oneCell' = true) :
    (Builtin.copy_ #[dT, sT] ty #[.slice (some ⟨g, o, none⟩) dLen dCap, .slice (some a) sLen sCap]).run P w =
      .ok (goInt (Nat.min sLen dLen)) (w.setRow g (spl cur o cs)) := by
  have hl := run_loadCells_list (P := P) w a cs hsrc
  have hst := run_storeCells_at P g o t cs 0 cur w hg (by simpa using hfit) h1
  cases hq : P.info? elem with
  | none => simp [hq] at hs
  | some i =>
    have hi : i.size = k := by simpa [hq] using hs
    simp only [Nat.add_zero] at hst
    simp [Builtin.copy_, run_underlying hu, Builtin.lenOf, Builtin.firstCells, sizeOf, typeInfo, hq, hi, ← hn, hl, hst, spl]
theorem lies_setRow {w : World} {g : Nat} {t : TypeId} {cur : Array Value} (h : Lies w g t cur) (cs : Array Value) : Lies (w.setRow g cs) g t cs := setRow_heap w g cur cs t _ h
theorem turn_setRow {S : Nat → Prop} {a w : World} (h : Turn S a w) {g : Nat} (hg : S g ∨ a.heap.size ≤ g) (cs : Array Value) : Turn S a (w.setRow g cs) :=
  ⟨h.os, h.tape, h.output, by simpa using h.size, fun k hk hn => (setRow_other w g k cs (fun e => by
    subst e
    rcases hg with hg | hg
    · exact hn hg
    · omega)).trans (h.block k hk hn)⟩
theorem below_row {B g : Nat} {w0 w : World} (hb : Below B w0 w) (hg : B ≤ g) (cs : Array Value) : Below B w0 (w.setRow g cs) :=
  hb.trans ⟨rfl, rfl, rfl, by simp, fun k hk => setRow_other w g k cs (by omega)⟩
theorem zero_len (z : Array Value) (n : Nat) : (Builtin.zeroCells z n).toList.length = n * z.size := by rw [Array.length_toList, size_zeroCells]
theorem lies_own {w : World} {B g cap n : Nat} {e : TypeId} {k : Nat} {xs : List Value} (h : w.ownsRow B e k (.slice (some ⟨g, 0, none⟩) n cap) n xs) :
    ∃ cur, Lies w g e cur ∧ B ≤ g ∧ n ≤ cap ∧ cap ≤ 9223372036854775807 ∧ cur.size = cap * k ∧ cur.toList.take (n * k) = xs ∧ xs.length = n * k := by
  rcases h.2 with ⟨h0, _⟩ | ⟨g', cap', cur, e', hb, hh, hc, hm, hs, ht⟩
  · cases h0
  · cases e'
    unfold maxLen at hm
    exact ⟨cur, hh, hb, hc, hm, hs, ht, h.1⟩
theorem own_lies {w : World} {B g cap n : Nat} {e : TypeId} {k : Nat} {cur : Array Value} (h : Lies w g e cur) (hb : B ≤ g) (hn : n ≤ cap) (hc : cap ≤ 9223372036854775807) (hs : cur.size = cap * k) {xs : List Value} (ht : cur.toList.take (n * k) = xs) :
    w.ownsRow B e k (.slice (some ⟨g, 0, none⟩) n cap) n xs := by
  have h1 : n * k ≤ cap * k := Nat.mul_le_mul_right k hn
  refine ⟨?_, .inr ⟨g, cap, cur, rfl, hb, h, hn, by unfold maxLen; omega, hs, ht⟩⟩
  rw [← ht, List.length_take, Array.length_toList, hs]
  omega
/-- What a row holds when all behind a place was copied up, and new cells were laid there. -/
theorem spl_shift {A C D R : List Value} {cur : Array Value} (hcur : cur.toList = A ++ C ++ D) (hR : R.length ≤ D.length) :
    (spl (spl cur (A.length + R.length) C) A.length R).toList.take (A.length + R.length + C.length) = A ++ R ++ C := by
  have hlen : cur.toList.length = A.length + C.length + D.length := by
    rw [hcur]
    simp
    omega
  have h1 : (spl cur (A.length + R.length) C).toList = cur.toList.take (A.length + R.length) ++ C ++ cur.toList.drop (A.length + R.length + C.length) := by simp [spl]
  have h2 : (spl (spl cur (A.length + R.length) C) A.length R).toList = (spl cur (A.length + R.length) C).toList.take A.length ++ R ++ (spl cur (A.length + R.length) C).toList.drop (A.length + R.length) := by simp [spl]
  have hl : (cur.toList.take (A.length + R.length)).length = A.length + R.length := by
    rw [List.length_take]
    omega
  have h3 : (spl cur (A.length + R.length) C).toList.take A.length = A := by
    rw [h1, List.append_assoc, List.take_append_of_le_length (by rw [hl]; omega), List.take_take, show min A.length (A.length + R.length) = A.length by omega, hcur, List.append_assoc, List.take_left]
  have h4 : (spl cur (A.length + R.length) C).toList.drop (A.length + R.length) = C ++ cur.toList.drop (A.length + R.length + C.length) := by
    rw [h1, List.append_assoc, List.drop_append, hl]
    simp
  rw [h2, h3, h4, ← List.append_assoc]
  have : (A ++ R ++ C).length = A.length + R.length + C.length := by simp; omega
  rw [← this, List.take_left]
/-- What a new row holds: what stood ahead of a place, new cells, and what stood from there on. -/
theorem spl_grow (A C Z R : List Value) :
    (spl (spl (A ++ Z).toArray A.length R) (A.length + R.length) C).toList.take (A.length + R.length + C.length) = A ++ R ++ C := by
  have h1 : (spl (A ++ Z).toArray A.length R).toList = A ++ R ++ (A ++ Z).drop (A.length + R.length) := by simp [spl]
  have h2 : (spl (spl (A ++ Z).toArray A.length R) (A.length + R.length) C).toList = (spl (A ++ Z).toArray A.length R).toList.take (A.length + R.length) ++ C ++ (spl (A ++ Z).toArray A.length R).toList.drop (A.length + R.length + C.length) := by simp [spl]
  have h3 : (spl (A ++ Z).toArray A.length R).toList.take (A.length + R.length) = A ++ R := by
    have : (A ++ R).length = A.length + R.length := by simp
    rw [h1, ← this, List.take_left]
  rw [h2, h3]
  have : (A ++ R ++ C).length = A.length + R.length + C.length := by simp; omega
  rw [← this, List.take_left]
theorem flat_split {α : Type} {k : Nat} {enc : α → List Value} (hk : ∀ x, (enc x).length = k) (S : List α) (i : Nat) (hi : i ≤ S.length) :
    S.flatMap enc = (S.take i).flatMap enc ++ (S.drop i).flatMap enc ∧ ((S.take i).flatMap enc).length = i * k ∧ ((S.drop i).flatMap enc).length = (S.length - i) * k := by
  refine ⟨?_, ?_, ?_⟩
  · rw [← List.flatMap_append, List.take_append_drop]
  · rw [flat_len hk, List.length_take, Nat.min_eq_left hi]
  · rw [flat_len hk, List.length_drop]
theorem flat_ins {α : Type} {enc : α → List Value} (S : List α) (i : Nat) (x : α) : (S.take i ++ x :: S.drop i).flatMap enc = (S.take i).flatMap enc ++ enc x ++ (S.drop i).flatMap enc := by
  simp
/-- A slice of things that reads as a list, cell by cell. -/
theorem rw_cells {α : Type} {k : Nat} {enc : α → List Value} (hk : ∀ x, (enc x).length = k) {w : World} {b o n : Nat} {l : List α} (h : Rw k enc w (some ⟨b, o, none⟩) n l) (j : Nat) (u : Value) (hj : (l.flatMap enc)[j]? = some u) : w.cell? ⟨b, o + j, none⟩ = some u := by
  have hlt := (List.getElem?_eq_some_iff.1 hj).1
  rw [flat_len hk] at hlt
  have hk0 : 0 < k := by
    rcases Nat.eq_zero_or_pos k with h0 | h0
    · subst h0
      omega
    · exact h0
  have hd : j / k < l.length := (Nat.div_lt_iff_lt_mul hk0).2 hlt
  have hm : j % k < k := Nat.mod_lt _ hk0
  obtain ⟨b', o', e, hc⟩ := h.2 (by rw [← h.1]; exact Nat.lt_of_le_of_lt (Nat.zero_le _) hd)
  cases e
  have hx := List.getElem?_eq_getElem hd
  have e1 : j / k * k + j % k = j := Nat.div_add_mod' j k
  have := hc _ _ hx _ hm
  rw [Nat.add_assoc, e1] at this
  rw [this, ← flat_at hk l _ _ _ hx hm, e1]
  exact hj
theorem turn_of_grown {w w' : World} {v : Value} (hg : w.grownBy w' v.ownBlock) : Turn (fun k => v.ownBlock = some k) w w' :=
  (Turn.refl _ w).grown hg (fun _ hk => .inl hk)
end Go.Proofs.YtkfmkchonlajpaaGreat
