/- Walks over package order: Allocate, Free, Ship, Order; the bundle's value. No condition but those written. -/
import Derived.Test.YtpkniomjohjbiaaOrPb
import Derived.Test.YtpkniomjohjbiaaOrP
namespace Go.Proofs.Ytpkniomjohjbiaa
open Go.RowKit

namespace Or
theorem Good.at_ {l : List Od} (h : Good l) {id : Int} {x : Od} (hx : getF id l = some x) : ∃ j : Nat, id = (j : Int) + 1 ∧ l[j]? = some x ∧ j < l.length := by
  obtain ⟨h1, j, h2, _⟩ := getF_at hx
  exact ⟨j, by rw [← h1]; exact h.id h2, h2, (List.getElem?_eq_some_iff.1 h2).1⟩
theorem Good.set_ {l : List Od} (h : Good l) {j : Nat} {x : Od} (hx : l[j]? = some x) (t : Int) : l.map (Or.turned ((j : Int) + 1) t) = l.set j { x with state := t } := by
  apply List.ext_getElem?
  intro i
  rw [List.getElem?_map, List.getElem?_set]
  have hj := (List.getElem?_eq_some_iff.1 hx).1
  by_cases hi : j = i
  · subst hi
    rw [hx, if_pos rfl, if_pos hj]
    simp only [Option.map_some, Or.turned]
    rw [if_pos (h.id hx)]
  · rw [if_neg hi]
    cases hy : l[i]? with
    | none => rfl
    | some y =>
      simp only [Option.map_some, Or.turned]
      rw [if_neg (by have := h.id hy; omega)]
theorem pdo_none (B h : Nat) (v : Value) (l : List Od) (id : Int) (f : Value) (w : World) (hp : PBo w B h v l) (hg : Good l) (hi : I64 id) (hn : getF id l = none) :
    Calls Try.prog 21 #[.pointer (some ⟨h, 0, none⟩), .int .i64 id, f] w fun e w' => e = .returned (.int .i64 5) ∧ w = w' := by
  obtain ⟨p, c, rfl, hc, _⟩ := hp.read
  have l0 : w.cell? ⟨h, 0, none⟩ = some (.slice p l.length c) := hp.2.1.cell 0
  have hlen := hg.len
  have h1 : id < 1 ∨ (l.length : Int) < id := by
    rw [hg.get id] at hn
    by_cases hh : 1 ≤ id ∧ id ≤ l.length
    · rw [if_pos hh] at hn
      have := List.getElem?_eq_none_iff.1 hn
      omega
    · omega
  obtain ⟨hi1, hi2⟩ := hi
  clear hp hg hn
  have t9 : (l.length : Int) ≤ 64 := by omega
  clear hlen
  by_cases c0 : id < 1
  · have t0 : decide (id < 1) = true := decide_eq_true c0
    clear h1 c0
    go_enter Try.func21, Try.ntmps21
    go_wp2
    go_ret
    exact ⟨rfl, rfl⟩
  · have t0 : decide (id < 1) = false := decide_eq_false c0
    have t1 : decide (id > (l.length : Int)) = true := decide_eq_true (by omega)
    have t2 : decide ((l.length : Int) < id) = true := decide_eq_true (by omega)
    clear h1 c0
    go_enter Try.func21, Try.ntmps21
    go_wp2
    go_ret
    exact ⟨rfl, rfl⟩
theorem row_od {w : World} {B n c b : Nat} {l : List Od} (h : w.ownsRow B 40 4 (.slice (some ⟨b, 0, none⟩) n c) n (l.flatMap ocells)) (hn : l.length = n) {j : Nat} {x : Od} (hx : l[j]? = some x) :
    w.cell? ⟨b, j * 4, none⟩ = some (.int .i64 x.id) ∧ w.cell? ⟨b, j * 4 + 1, none⟩ = some (.int .i64 x.product) ∧ w.cell? ⟨b, j * 4 + 2, none⟩ = some (.int .i64 x.units) ∧ w.cell? ⟨b, j * 4 + 3, none⟩ = some (.int .i64 x.state) :=
  ⟨row_cell ocells_len h hn hx (i := 0) (by decide), row_cell ocells_len h hn hx (i := 1) (by decide), row_cell ocells_len h hn hx (i := 2) (by decide), row_cell ocells_len h hn hx (i := 3) (by decide)⟩
/-- What a call of a closure at an order's place leaves. -/
theorem pdo_turn (B h : Nat) (v : Value) (l : List Od) (j : Nat) (x : Od) (a1 a2 : Nat) (R : Ending → World → Prop) (w : World) (hp : PBo w B h v l) (hg : Good l) (hx : l[j]? = some x)
    (C : ∀ b, v.ownBlock = some b → Calls Try.prog 26 #[.pointer (some ⟨b, j * 4, none⟩), .pointer (some ⟨a1, 0, none⟩), .pointer (some ⟨a2, 0, none⟩)] w fun e w' => (∃ n, e = .returned (.int .i64 n)) ∧ R e w') :
    Calls Try.prog 21 #[.pointer (some ⟨h, 0, none⟩), .int .i64 ((j : Int) + 1), .func (.func 26) #[] #[.pointer (some ⟨a1, 0, none⟩), .pointer (some ⟨a2, 0, none⟩)]] w R := by
  obtain ⟨p, c, rfl, hc, _⟩ := hp.read
  have hj : j < l.length := (List.getElem?_eq_some_iff.1 hx).1
  obtain ⟨b, c', e1, _⟩ := own_some hp.2.2.1 (by omega)
  injection e1 with e1 _ _
  subst e1
  have CC := Lib.hid (C b rfl)
  have l0 : w.cell? ⟨h, 0, none⟩ = some (.slice (some ⟨b, 0, none⟩) l.length c) := hp.2.1.cell 0
  have hlen := hg.len
  have t9 : (l.length : Int) ≤ 64 := by omega
  have t8 : (j : Int) < (l.length : Int) := by omega
  have t0 : decide ((j : Int) + 1 < 1) = false := decide_eq_false (by omega)
  have t1 : decide ((j : Int) + 1 > (l.length : Int)) = false := decide_eq_false (by omega)
  have t2 : decide ((l.length : Int) < (j : Int) + 1) = false := decide_eq_false (by omega)
  clear hp hg hx C hc hlen
  go_enter Try.func21, Try.ntmps21
  go_wp2_with fail
  refine CC.out.mono ?_
  rintro e w1 ⟨⟨n, rfl⟩, hr⟩
  clear l0
  go_wp2
  exact hr
/-- What a call of a closure at an order's place leaves. -/
theorem pdo_copy (B h : Nat) (v : Value) (l : List Od) (j : Nat) (x : Od) (a1 : Nat) (R : Ending → World → Prop) (w : World) (hp : PBo w B h v l) (hg : Good l) (hx : l[j]? = some x)
    (C : ∀ b, v.ownBlock = some b → Calls Try.prog 27 #[.pointer (some ⟨b, j * 4, none⟩), .pointer (some ⟨a1, 0, none⟩)] w fun e w' => (∃ n, e = .returned (.int .i64 n)) ∧ R e w') :
    Calls Try.prog 21 #[.pointer (some ⟨h, 0, none⟩), .int .i64 ((j : Int) + 1), .func (.func 27) #[] #[.pointer (some ⟨a1, 0, none⟩)]] w R := by
  obtain ⟨p, c, rfl, hc, _⟩ := hp.read
  have hj : j < l.length := (List.getElem?_eq_some_iff.1 hx).1
  obtain ⟨b, c', e1, _⟩ := own_some hp.2.2.1 (by omega)
  injection e1 with e1 _ _
  subst e1
  have CC := Lib.hid (C b rfl)
  have l0 : w.cell? ⟨h, 0, none⟩ = some (.slice (some ⟨b, 0, none⟩) l.length c) := hp.2.1.cell 0
  have hlen := hg.len
  have t9 : (l.length : Int) ≤ 64 := by omega
  have t8 : (j : Int) < (l.length : Int) := by omega
  have t0 : decide ((j : Int) + 1 < 1) = false := decide_eq_false (by omega)
  have t1 : decide ((j : Int) + 1 > (l.length : Int)) = false := decide_eq_false (by omega)
  have t2 : decide ((l.length : Int) < (j : Int) + 1) = false := decide_eq_false (by omega)
  clear hp hg hx C hc hlen
  go_enter Try.func21, Try.ntmps21
  go_wp2_with fail
  refine CC.out.mono ?_
  rintro e w1 ⟨⟨n, rfl⟩, hr⟩
  clear l0
  go_wp2
  exact hr
theorem boxes2 (w : World) (a b : Array Value) (t s : TypeId) : ∃ w1, (w.alloc (.cells a t)).alloc (.cells b s) = w1 ∧ Hid (Below w.heap.size w w1) ∧ Hid (Lies w1 w.heap.size t a) ∧ Hid (Lies w1 (w.heap.size + 1) s b) :=
  ⟨_, rfl, Lib.hid ((alloc_below w _).alloc (by simp) _), Lib.hid ((Lies.new w t a).alloc _), Lib.hid (by simpa using Lies.new (w.alloc (.cells a t)) s b)⟩
/-- An order is let be in another state: in a world that has the two states in blocks. -/
theorem pchange_any (B h : Nat) (F : Nat → Prop) (v : Value) (l : List Od) (id x y : Int) (a b : Nat) (w W : World) (hp : PBo w B h v l) (hF : ∀ k, F k ↔ Feet h v k) (hg : Good l) (hi : I64 id) (hW : Below w.heap.size w W) (ha : Nt W a x) (hb : Nt W b y) :
    Calls Try.prog 21 #[.pointer (some ⟨h, 0, none⟩), .int .i64 id, tn a b] W fun e w' => e = .returned (.int .i64 (changeF l id x y).2) ∧ Left DBo w B h F (changeF l id x y).1 w' := by
  have hpW : PBo W B h v l := ⟨hp.1, hp.2.1.below hW hp.2.1.lt, own_turn hp.2.2.1 (Turn.of_below (S := fun _ => False) hW) (fun _ _ hf => hf), Nat.le_trans hp.2.2.2 hW.size⟩
  have TW : Turn (Feet h v) w W := Turn.of_below hW
  have hne := hp.apart
  unfold changeF
  cases hn : getF id l with
  | none =>
    refine (pdo_none B h v l id _ W hpW hg hi hn).mono ?_
    rintro e w' ⟨rfl, rfl⟩
    exact ⟨rfl, dbo_left hF hpW TW (fun _ hk => .inl hk)⟩
  | some z =>
    obtain ⟨j, rfl, hj, hlt⟩ := hg.at_ hn
    simp only
    refine pdo_turn B h v l j z a b _ W hpW hg hj (fun g hv => ?_)
    obtain ⟨p, c, rfl, hc, _⟩ := hp.read
    obtain ⟨g', c', e1, hBg, _⟩ := own_some hp.2.2.1 (by omega)
    injection e1 with e1 _ _
    subst e1
    injection hv with hv
    simp only at hv
    subst hv
    have hgh : g' ≠ h := fun e => hne (by rw [← e]; rfl)
    obtain ⟨_, _, _, r3⟩ := row_od hpW.2.2.1 rfl hj
    have f3 : W.frozen? ⟨g', j * 4 + 3, none⟩ = false := by
      obtain ⟨cur, hl, _⟩ := lies_own hpW.2.2.1
      exact hl.frozen _
    by_cases hs : z.state = x
    · rw [if_pos hs]
      rw [hs] at r3
      refine (dturn_yes g' (j * 4) a b x y W r3 f3 ha hb).mono ?_
      rintro e w' ⟨rfl, m, rfl⟩
      refine ⟨⟨_, rfl⟩, rfl, ?_⟩
      rw [hg.set_ hj]
      have TS : Turn (Feet h (.slice (some ⟨g', 0, none⟩) l.length c)) w ((W.drewN m).setCell ⟨g', j * 4 + 3, none⟩ (.int .i64 y)) := (TW.drewN m).setCell (p := ⟨g', j * 4 + 3, none⟩) (.inl (.inr rfl)) _
      refine dbo_left (v' := .slice (some ⟨g', 0, none⟩) l.length c) hF ⟨hp.1, ?_, ?_, Nat.le_trans hp.2.2.2 TS.size⟩ TS (fun _ hk => .inl hk)
      · exact (hpW.2.1.drewN m).turn ((Turn.refl (fun k => k = g') (W.drewN m)).setCell (p := ⟨g', j * 4 + 3, none⟩) (.inl rfl) _) (fun e => hgh e.symm)
      · rw [List.length_set]
        exact row_store (w := W.drewN m) ocells_len (own_turn hpW.2.2.1 (turn_drewN W (fun _ => False) m) (fun _ _ hf => hf)) hj (i := 3) (by decide) rfl
    · rw [if_neg hs]
      refine (dturn_no g' (j * 4) a b z.state x W r3 ha hs).mono ?_
      rintro e w' ⟨rfl, m, rfl⟩
      refine ⟨⟨_, rfl⟩, rfl, ?_⟩
      exact dbo_left hF ⟨hp.1, hpW.2.1.drewN m, own_turn hpW.2.2.1 (turn_drewN W (fun _ => False) m) (fun _ _ hf => hf), hpW.2.2.2⟩ (TW.drewN m) (fun _ hk => .inl hk)
set_option maxRecDepth 100000 in
set_option maxHeartbeats 4000000 in
theorem palloc_any (B h : Nat) (F : Nat → Prop) (l : List Od) (id : Int) (w : World) (hd : DBo w B h F l) (hg : Good l) (hi : I64 id) :
    Calls Try.prog 8 #[.pointer (some ⟨h, 0, none⟩), .int .i64 id] w fun e w' => e = .returned (.int .i64 (changeF l id 0 1).2) ∧ Left DBo w B h F (changeF l id 0 1).1 w' := by
  obtain ⟨v, hp, hF⟩ := hd
  have C := Lib.hid (fun a b W (hW : Below w.heap.size w W) (ha : Nt W a 0) (hb : Nt W b 1) => pchange_any B h F v l id 0 1 a b w W hp hF hg hi hW ha hb)
  clear hp hF hg hi
  generalize changeF l id 0 1 = r at *
  have T := Lib.hid (pturn_any 0 1 w)
  unfold tn at T C
  go_enter Try.func8, Try.ntmps8
  go_wp2_with fail
  refine T.out.mono ?_
  rintro e w1 ⟨rfl, ha, hb, hB⟩
  have K := Lib.hid (C.out _ _ w1 hB ha hb)
  clear C T ha hb hB
  go_wp2_with fail
  refine K.out.mono ?_
  rintro e w2 ⟨rfl, hl⟩
  have L := Lib.hid hl
  clear hl K
  go_wp2
  go_ret
  exact ⟨rfl, L.out⟩
set_option maxRecDepth 100000 in
set_option maxHeartbeats 4000000 in
theorem pfree_any (B h : Nat) (F : Nat → Prop) (l : List Od) (id : Int) (w : World) (hd : DBo w B h F l) (hg : Good l) (hi : I64 id) :
    Calls Try.prog 10 #[.pointer (some ⟨h, 0, none⟩), .int .i64 id] w fun e w' => e = .returned (.int .i64 (changeF l id 1 0).2) ∧ Left DBo w B h F (changeF l id 1 0).1 w' := by
  obtain ⟨v, hp, hF⟩ := hd
  have C := Lib.hid (fun a b W (hW : Below w.heap.size w W) (ha : Nt W a 1) (hb : Nt W b 0) => pchange_any B h F v l id 1 0 a b w W hp hF hg hi hW ha hb)
  clear hp hF hg hi
  generalize changeF l id 1 0 = r at *
  have T := Lib.hid (pturn_any 1 0 w)
  unfold tn at T C
  go_enter Try.func10, Try.ntmps10
  go_wp2_with fail
  refine T.out.mono ?_
  rintro e w1 ⟨rfl, ha, hb, hB⟩
  have K := Lib.hid (C.out _ _ w1 hB ha hb)
  clear C T ha hb hB
  go_wp2_with fail
  refine K.out.mono ?_
  rintro e w2 ⟨rfl, hl⟩
  have L := Lib.hid hl
  clear hl K
  go_wp2
  go_ret
  exact ⟨rfl, L.out⟩
set_option maxRecDepth 100000 in
set_option maxHeartbeats 4000000 in
theorem pship_any (B h : Nat) (F : Nat → Prop) (l : List Od) (id : Int) (w : World) (hd : DBo w B h F l) (hg : Good l) (hi : I64 id) :
    Calls Try.prog 11 #[.pointer (some ⟨h, 0, none⟩), .int .i64 id] w fun e w' => e = .returned (.int .i64 (changeF l id 1 2).2) ∧ Left DBo w B h F (changeF l id 1 2).1 w' := by
  obtain ⟨v, hp, hF⟩ := hd
  have C := Lib.hid (fun a b W (hW : Below w.heap.size w W) (ha : Nt W a 1) (hb : Nt W b 2) => pchange_any B h F v l id 1 2 a b w W hp hF hg hi hW ha hb)
  clear hp hF hg hi
  generalize changeF l id 1 2 = r at *
  have T := Lib.hid (pturn_any 1 2 w)
  unfold tn at T C
  go_enter Try.func11, Try.ntmps11
  go_wp2_with fail
  refine T.out.mono ?_
  rintro e w1 ⟨rfl, ha, hb, hB⟩
  have K := Lib.hid (C.out _ _ w1 hB ha hb)
  clear C T ha hb hB
  go_wp2_with fail
  refine K.out.mono ?_
  rintro e w2 ⟨rfl, hl⟩
  have L := Lib.hid hl
  clear hl K
  go_wp2
  go_ret
  exact ⟨rfl, L.out⟩
/-- The order with an ID: told, and nothing older turned. -/
theorem pfind_any (B h : Nat) (v : Value) (l : List Od) (id : Int) (g a : Nat) (w : World) (hp : PBo w B h v l) (hg : Good l) (hi : I64 id) (ha : Lies w a 57 #[.pointer (some ⟨g, 0, none⟩)]) (hh : Lies w g 40 #[.int .i64 0, .int .i64 0, .int .i64 0, .int .i64 0]) :
    Calls Try.prog 21 #[.pointer (some ⟨h, 0, none⟩), .int .i64 id, cpy a] w fun e w' => e = .returned (.int .i64 (orderF l id).2) ∧ Lies w' g 40 (ocells (orderF l id).1).toArray ∧ Turn (fun k => k = g) w w' := by
  unfold orderF
  cases hn : getF id l with
  | none =>
    refine (pdo_none B h v l id _ w hp hg hi hn).mono ?_
    rintro e w' ⟨rfl, rfl⟩
    exact ⟨rfl, hh, Turn.refl _ _⟩
  | some z =>
    obtain ⟨j, rfl, hj, hlt⟩ := hg.at_ hn
    simp only
    refine pdo_copy B h v l j z a _ w hp hg hj (fun b hv => ?_)
    obtain ⟨p, c, rfl, hc, _⟩ := hp.read
    obtain ⟨g', c', e1, _⟩ := own_some hp.2.2.1 (by omega)
    injection e1 with e1 _ _
    subst e1
    injection hv with hv
    simp only at hv
    subst hv
    obtain ⟨r0, r1, r2, r3⟩ := row_od hp.2.2.1 rfl hj
    refine (dcopy_any g' (j * 4) a g z w r0 r1 r2 r3 ha hh).mono ?_
    rintro e w' ⟨rfl, h1, h2⟩
    exact ⟨⟨_, rfl⟩, rfl, h1, h2⟩
set_option maxRecDepth 100000 in
set_option maxHeartbeats 4000000 in
theorem porder_any (B h : Nat) (F : Nat → Prop) (l : List Od) (id : Int) (w : World) (hd : DBo w B h F l) (hg : Good l) (hi : I64 id) :
    Calls Try.prog 16 #[.pointer (some ⟨h, 0, none⟩), .int .i64 id] w fun e w' => e = .returned (.tuple #[oval (orderF l id).1, .int .i64 (orderF l id).2]) ∧ Below w.heap.size w w' := by
  obtain ⟨v, hp, _⟩ := hd
  have KP := Lib.hid (fun W (hW : Below w.heap.size w W) => (⟨hp.1, hp.2.1.below hW hp.2.1.lt, own_turn hp.2.2.1 (Turn.of_below (S := fun _ => False) hW) (fun _ _ hf => hf), Nat.le_trans hp.2.2.2 hW.size⟩ : PBo W B h v l))
  have CF := Lib.hid (fun g a W (hW : PBo W B h v l) ha hh => pfind_any B h v l id g a W hW hg hi ha hh)
  generalize orderF l id = r at *
  obtain ⟨⟨ka, kb, kc, kd⟩, en⟩ := r
  simp only [ocells, oval] at CF ⊢
  unfold cpy at CF
  obtain ⟨w1, hw1, B1, X1, Y1⟩ := boxes2 w #[.int .i64 0, .int .i64 0, .int .i64 0, .int .i64 0] #[.int .i64 0, .int .i64 0, .int .i64 0, .int .i64 0] 40 40
  have HZ := Lib.hid (show w1.heap.size = w.heap.size + 2 by rw [← hw1]; simp)
  clear hp hg hi
  have CP := Lib.hid (pcopy_any (w.heap.size + 1) w1)
  unfold cpy at CP
  go_enter Try.func16, Try.ntmps16
  go_wp2_with fail
  refine CP.out.mono ?_
  rintro e w2 ⟨rfl, ha, hb⟩
  have B2 := Lib.hid (B1.out.trans (hb.mono B1.out.size))
  have X2 := Lib.hid (X1.out.below hb X1.out.lt)
  have Y2 := Lib.hid (Y1.out.below hb Y1.out.lt)
  have K := Lib.hid (CF.out _ _ w2 (KP.out _ B2.out) ha Y2.out)
  clear hw1 hb ha CP CF KP X1 Y1 Y2 B1
  go_wp2_with fail
  refine K.out.mono ?_
  rintro e w3 ⟨rfl, h1, h2⟩
  have X3 := X2.out.turn h2 (by omega)
  have B3 := Lib.hid (h2.below B2.out B2.out.size (by intro i hi; omega))
  have s0 : w3.cell? ⟨w.heap.size + 1, 0, none⟩ = some (.int .i64 ka) := h1.cell 0
  have s1 : w3.cell? ⟨w.heap.size + 1, 1, none⟩ = some (.int .i64 kb) := h1.cell 1
  have s2 : w3.cell? ⟨w.heap.size + 1, 2, none⟩ = some (.int .i64 kc) := h1.cell 2
  have s3 : w3.cell? ⟨w.heap.size + 1, 3, none⟩ = some (.int .i64 kd) := h1.cell 3
  have r0 : w3.cell? ⟨w.heap.size, 0, none⟩ = some (.int .i64 0) := X3.cell 0
  have r1 : w3.cell? ⟨w.heap.size, 1, none⟩ = some (.int .i64 0) := X3.cell 1
  have r2 : w3.cell? ⟨w.heap.size, 2, none⟩ = some (.int .i64 0) := X3.cell 2
  have r3 : w3.cell? ⟨w.heap.size, 3, none⟩ = some (.int .i64 0) := X3.cell 3
  have g0 : w3.frozen? ⟨w.heap.size, 0, none⟩ = false := X3.frozen 0
  have g1 : w3.frozen? ⟨w.heap.size, 1, none⟩ = false := X3.frozen 1
  have g2 : w3.frozen? ⟨w.heap.size, 2, none⟩ = false := X3.frozen 2
  have g3 : w3.frozen? ⟨w.heap.size, 3, none⟩ = false := X3.frozen 3
  clear K h1 h2 X3 X2 B2
  go_wp2
  refine bodyPost_ret (v := .tuple #[.agg #[.int .i64 ka, .int .i64 kb, .int .i64 kc, .int .i64 kd], .int .i64 en]) (by simp [results, Try.results16, go_sem, r0, r1, r2, r3]) rfl ⟨rfl, ?_⟩
  iterate 4 refine Below.setCell ?_ (show w.heap.size ≤ _ from Nat.le_refl _) _
  exact B3.out
theorem pdo_nil (id : Int) (f : Value) (w : World) : Calls Try.prog 21 #[.pointer none, .int .i64 id, f] w fun e w' => e = .returned (.int .i64 1) ∧ w = w' := by
  go_enter Try.func21, Try.ntmps21
  go_wp2
  go_ret
  exact ⟨rfl, rfl⟩
theorem pnil_alloc (id : Int) (w : World) : Calls Try.prog 8 #[.pointer none, .int .i64 id] w fun e w' => e = .returned (.int .i64 1) ∧ Below w.heap.size w w' := by
  have T := Lib.hid (pturn_any 0 1 w)
  have C := Lib.hid (fun f W => pdo_nil id f W)
  go_enter Try.func8, Try.ntmps8
  go_wp2_with fail
  refine T.out.mono ?_
  rintro e w1 ⟨rfl, _, _, hB⟩
  have B1 := Lib.hid hB
  clear T hB
  go_wp2_with fail
  refine (C.out _ _).mono ?_
  rintro e w2 ⟨rfl, rfl⟩
  go_wp2
  go_ret
  exact ⟨rfl, B1.out⟩
theorem pnil_free (id : Int) (w : World) : Calls Try.prog 10 #[.pointer none, .int .i64 id] w fun e w' => e = .returned (.int .i64 1) ∧ Below w.heap.size w w' := by
  have T := Lib.hid (pturn_any 1 0 w)
  have C := Lib.hid (fun f W => pdo_nil id f W)
  go_enter Try.func10, Try.ntmps10
  go_wp2_with fail
  refine T.out.mono ?_
  rintro e w1 ⟨rfl, _, _, hB⟩
  have B1 := Lib.hid hB
  clear T hB
  go_wp2_with fail
  refine (C.out _ _).mono ?_
  rintro e w2 ⟨rfl, rfl⟩
  go_wp2
  go_ret
  exact ⟨rfl, B1.out⟩
theorem pnil_ship (id : Int) (w : World) : Calls Try.prog 11 #[.pointer none, .int .i64 id] w fun e w' => e = .returned (.int .i64 1) ∧ Below w.heap.size w w' := by
  have T := Lib.hid (pturn_any 1 2 w)
  have C := Lib.hid (fun f W => pdo_nil id f W)
  go_enter Try.func11, Try.ntmps11
  go_wp2_with fail
  refine T.out.mono ?_
  rintro e w1 ⟨rfl, _, _, hB⟩
  have B1 := Lib.hid hB
  clear T hB
  go_wp2_with fail
  refine (C.out _ _).mono ?_
  rintro e w2 ⟨rfl, rfl⟩
  go_wp2
  go_ret
  exact ⟨rfl, B1.out⟩
theorem pnil_want (product units : Int) (w : World) : Calls Try.prog 12 #[.pointer none, .int .i64 product, .int .i64 units] w fun e w' => e = .returned (.tuple #[.int .i64 0, .int .i64 1]) ∧ Below w.heap.size w w' := by
  go_enter Try.func12, Try.ntmps12
  go_wp2
  go_ret2
  exact ⟨rfl, Below.refl _ _⟩
theorem pnil_orders (w : World) : Calls Try.prog 15 #[.pointer none] w fun e w' => (∃ q c, e = .returned (.slice q 0 c)) ∧ Below w.heap.size w w' := by
  go_enter Try.func15, Try.ntmps15
  go_wp2
  go_ret
  exact ⟨⟨_, _, rfl⟩, Below.refl _ _⟩
set_option maxRecDepth 100000 in
set_option maxHeartbeats 4000000 in
theorem pnil_order (id : Int) (w : World) : Calls Try.prog 16 #[.pointer none, .int .i64 id] w fun e w' => e = .returned (.tuple #[oval od0, .int .i64 1]) ∧ Below w.heap.size w w' := by
  have C := Lib.hid (fun f W => pdo_nil id f W)
  simp only [oval, od0]
  obtain ⟨w1, hw1, B1, X1, Y1⟩ := boxes2 w #[.int .i64 0, .int .i64 0, .int .i64 0, .int .i64 0] #[.int .i64 0, .int .i64 0, .int .i64 0, .int .i64 0] 40 40
  have CP := Lib.hid (pcopy_any (w.heap.size + 1) w1)
  go_enter Try.func16, Try.ntmps16
  go_wp2_with fail
  refine CP.out.mono ?_
  rintro e w3 ⟨rfl, _, hb⟩
  have B3 := Lib.hid (B1.out.trans (hb.mono B1.out.size))
  have X3 := X1.out.below hb X1.out.lt
  have Y3 := Y1.out.below hb Y1.out.lt
  clear hw1 hb CP X1 Y1 B1
  go_wp2_with fail
  refine (C.out _ _).mono ?_
  rintro e w2 ⟨rfl, rfl⟩
  have s0 : w3.cell? ⟨w.heap.size + 1, 0, none⟩ = some (.int .i64 0) := Y3.cell 0
  have s1 : w3.cell? ⟨w.heap.size + 1, 1, none⟩ = some (.int .i64 0) := Y3.cell 1
  have s2 : w3.cell? ⟨w.heap.size + 1, 2, none⟩ = some (.int .i64 0) := Y3.cell 2
  have s3 : w3.cell? ⟨w.heap.size + 1, 3, none⟩ = some (.int .i64 0) := Y3.cell 3
  have r0 : w3.cell? ⟨w.heap.size, 0, none⟩ = some (.int .i64 0) := X3.cell 0
  have r1 : w3.cell? ⟨w.heap.size, 1, none⟩ = some (.int .i64 0) := X3.cell 1
  have r2 : w3.cell? ⟨w.heap.size, 2, none⟩ = some (.int .i64 0) := X3.cell 2
  have r3 : w3.cell? ⟨w.heap.size, 3, none⟩ = some (.int .i64 0) := X3.cell 3
  have g0 : w3.frozen? ⟨w.heap.size, 0, none⟩ = false := X3.frozen 0
  have g1 : w3.frozen? ⟨w.heap.size, 1, none⟩ = false := X3.frozen 1
  have g2 : w3.frozen? ⟨w.heap.size, 2, none⟩ = false := X3.frozen 2
  have g3 : w3.frozen? ⟨w.heap.size, 3, none⟩ = false := X3.frozen 3
  clear X3 Y3 C
  go_wp2
  refine bodyPost_ret (v := .tuple #[.agg #[.int .i64 0, .int .i64 0, .int .i64 0, .int .i64 0], .int .i64 1]) (by simp [results, Try.results16, go_sem, r0, r1, r2, r3]) rfl ⟨rfl, ?_⟩
  iterate 4 refine Below.setCell ?_ (show w.heap.size ≤ _ from Nat.le_refl _) _
  exact B3.out
/-- Package order has what is asked of it. -/
def oface : Face where
  DB := DBo
  foot := dbo_foot
  turn := dbo_turn
  new := pnewO_any
  want := pwant_any
  alloc := palloc_any
  free := pfree_any
  ship := pship_any
  order := porder_any
  orders := fun B h F l w hd hg => porders_any B h F l w hd hg
  right := pright_any
  of_yes := pof_yes
  of_no := pof_no
  nil_want := pnil_want
  nil_alloc := pnil_alloc
  nil_free := pnil_free
  nil_ship := pnil_ship
  nil_order := pnil_order
  nil_orders := pnil_orders
end Or
end Go.Proofs.Ytpkniomjohjbiaa
