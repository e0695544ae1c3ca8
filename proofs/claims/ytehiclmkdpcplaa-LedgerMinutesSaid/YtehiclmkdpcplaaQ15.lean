/- The walk over package excess: what is still unknown ahead of a minute is added up. Conditions: an index whose parts reckon what they say. -/
import Derived.Test.YtehiclmkdpcplaaQ14
import Derived.StillTailTactics
import Derived.Maps.AppendAt
namespace Go.Proofs.Ytehiclmkdpcplaa
open Go.RowKit Se
attribute [local go_sem] Oper.semAt_some

namespace Ex
theorem new_set (w : World) (t : TypeId) (u u' : Value) : Lies ((w.alloc (.cells #[u] t)).setCell ⟨w.heap.size, 0, none⟩ u') w.heap.size t #[u'] := by
  have := (Lies.new w t #[u]).set_ 0 u'
  simpa using this
/-- Behind the sum that is known: it lies in a box. -/
def Boxd (w : World) (s : Int) (b : Nat) (w' : World) : Prop := w.heap.size ≤ b ∧ Lies w' b 3 #[.int .i64 s] ∧ Below w.heap.size w w'
theorem op_append {P : Program} {ops : Array Oper} {Q : Exit → Act → World → Prop} {o : Oper} {a : Act} {w w' : World} {K : Act → World → Prop} {E : Prop} {v x v' : Value} (t : TypeId) (s y : Operand) (hg : o.guard = none) (hop : o.op = Op.call { callee := Callee.builtin Builtin.append, args := #[s, y], argTypes := #[t, t] })
    (hs : a.eval s = v) (hy : a.eval y = x) (hrun : ∀ ty, (Builtin.append_ #[t, t] ty #[v, x]).run P w = .ok v' w') (hK : K (a.put o.dst v') w') : if Region.wanted o (yielded ops a.tmps) = true then Oper.wp P o a w K Q else E := by
  have hw : Region.wanted o (yielded ops a.tmps) = true := by simp [Region.wanted, hg]
  rw [if_pos hw]
  unfold Oper.wp
  simp [execOp, hop, resolve, invoke, builtin, hs, hy, hrun, Result.andThen]
  exact hK
theorem pinfo : (Try.prog.info? 109).map (fun i => (i.zero, i.size, i.bytes)) = some (some (.agg #[.int .i64 0, .int .i64 0, .int .i64 0]), 3, 24) := by kernel_rfl
theorem pcells_one (x : Pt) : ∀ u ∈ pcells x, u.oneCell' = true := by
  intro u hu
  simp only [pcells, List.mem_cons, List.not_mem_nil, or_false] at hu
  rcases hu with rfl | rfl | rfl <;> rfl
/-- One part more. -/
theorem app_part (B : Nat) (v : Value) (S : List Pt) (x : Pt) (bv : Nat) (w : World) (h : w.ownsRow B 109 3 v S.length (S.flatMap pcells)) (hB : B ≤ w.heap.size) (hL : S.length ≤ 1000000000) (hv : Lies w bv 109 #[.int .i64 x.frm, .int .i64 x.bef, .int .i64 x.exc]) :
    ∃ v' w', (∀ ty, (Builtin.append_ #[100, 100] ty #[v, .slice (some ⟨bv, 0, none⟩) 1 1]).run Try.prog w = .ok v' w') ∧ w'.ownsRow B 109 3 v' (S ++ [x]).length ((S ++ [x]).flatMap pcells) ∧ w.grownBy w' v.ownBlock ∧ (v'.ownBlock = v.ownBlock ∨ v'.ownBlock = some w.heap.size) := by
  obtain ⟨i0, hi, hz0, hz1, hz2⟩ := info_parts pinfo
  have key := fun ty => run_append_own_at (P := Try.prog) w B 100 ty 109 i0 _ 3 24 Try.underlying100 hi hz0 hz1 hz2 rfl (by decide) v S.length (S.flatMap pcells) h ⟨bv, 0, none⟩ 1 1 (pcells x) (by rfl) (fun j u hj => by rw [add_none, Nat.zero_add, hv.cell j]; simpa [pcells] using hj) (pcells_one x) (by unfold maxLen; omega) (by omega) hB
  obtain ⟨v', w', h1, h2, h3, _, h5⟩ := key 100
  refine ⟨v', w', fun ty => ?_, ?_, h3, h5⟩
  · obtain ⟨v2, w2, k1, _⟩ := key ty
    have e : (Builtin.append_ #[100, 100] ty #[v, .slice (some ⟨bv, 0, none⟩) 1 1]).run Try.prog w = (Builtin.append_ #[100, 100] 100 #[v, .slice (some ⟨bv, 0, none⟩) 1 1]).run Try.prog w := by
      unfold Builtin.append_
      rfl
    rw [e]
    exact h1
  · rw [List.length_append, List.length_singleton, ← flat_snoc]
    exact h2
/-- Between two rounds: the index and the sum, runs having come. -/
def Upon (w : World) (B h h0 : Nat) (v0 : Value) (P : List Pt) (kn li : Int) (b4 : Nat) (f : Int → Int) (s : Int) (pre : List Rn) (W : World) : Prop :=
  ∃ v, Lies W h 102 #[.pointer (some ⟨h0, 0, none⟩), .int .i64 li, v, .int .i64 (endOf kn pre)] ∧ W.ownsRow B 109 3 v (P ++ mkP f s pre).length ((P ++ mkP f s pre).flatMap pcells) ∧
    Lies W b4 3 #[.int .i64 (fold f s pre)] ∧ Turn (fun k => k = h ∨ v0.ownBlock = some k ∨ k = b4) w W ∧ ∀ k, v.ownBlock = some k → v0.ownBlock = some k ∨ w.heap.size ≤ k
/-- A new part in a box. -/
def Boxp (W : World) (a b c : Int) (b7 : Nat) (w' : World) : Prop := W.heap.size ≤ b7 ∧ Lies w' b7 109 #[.int .i64 a, .int .i64 b, .int .i64 c] ∧ Below W.heap.size W w'
theorem upon_own (w : World) (B h h0 : Nat) (v0 : Value) (P : List Pt) (kn li : Int) (b4 : Nat) (f : Int → Int) (s : Int) : OwnFrom w.heap.size (Upon w B h h0 v0 P kn li b4 f s) := fun _ _ _ _ ⟨v, h1, h2, h3, h4, h5⟩ hg hr =>
  ⟨v, h1.own hg (fun r e => (hr r e).2), own_own h2 hg (fun r e => (hr r e).2), h3.own hg (fun r e => (hr r e).2), h4.grown hg (fun k e => .inr (hr k e).1), h5⟩
set_option maxRecDepth 100000 in
set_option maxHeartbeats 16000000 in
theorem reach_new (B h h0 : Nat) (F0 : Nat → Prop) (v : Value) (P : List Pt) (kn wo ga li : Int) (S : List Rd) (m : Int) (w : World) (hp : Idx w B h h0 F0 v P kn wo ga li S) (hs : Sorted S) (hr : ∀ x ∈ S, rightB x = true) (hm : mayB wo ga = true) (hl : tenB li = true) (hL : S.length ≤ 1000)
    (hmk : kn < m) (hm1 : m ≤ 1048576) :
    Calls Try.prog 74 #[.pointer (some ⟨h, 0, none⟩), .int .i64 m] w fun e w' => (∃ u, e = .returned u) ∧ Known w B h h0 F0 v m wo ga li S w' := by
  have B0 := Lib.hid ((alloc_below w (.cells #[.pointer (some ⟨h, 0, none⟩)] 84)).alloc (by simp) (.cells #[.int .i64 m] 3))
  obtain ⟨w2, hw2⟩ : ∃ w2, (w.alloc (.cells #[.pointer (some ⟨h, 0, none⟩)] 84)).alloc (.cells #[.int .i64 m] 3) = w2 := ⟨_, rfl⟩
  have L2 : Lies w2 w.heap.size 84 #[.pointer (some ⟨h, 0, none⟩)] := by
    rw [← hw2]
    exact (Lies.new _ _ _).alloc _
  have L3 : Lies w2 (w.heap.size + 1) 3 #[.int .i64 m] := by
    rw [← hw2]
    have := Lies.new (w.alloc (.cells #[.pointer (some ⟨h, 0, none⟩)] 84)) 3 #[.int .i64 m]
    rwa [World.size_alloc] at this
  rw [hw2] at B0
  have Z2 := Lib.hid (show w2.heap.size = w.heap.size + 2 by rw [← hw2]; simp)
  have HF := Lib.hid (exm_mild hm hr hl)
  have KL := hp.rk.lo
  have KH := hp.rk.hi
  have XS := Lib.hid (fun W t (hq : PSF W B h0 F0 wo ga S) (h0' : 0 ≤ t) (h1' : t ≤ 1048576) => excess_any B h0 F0 wo ga li S t W hq hs hr hm hl hL h0' h1')
  have HG := Lib.hid (And.intro hs (And.intro hr (And.intro hm hL)))
  have HW := Lib.hid hp
  have HL := Lib.hid hp.box.lt
  have HP := Lib.hid (hp.keep B0.out)
  have UP := Lib.hid (fun W (hq : Idx W B h h0 F0 v P kn wo ga li S) => upto_known B h h0 F0 v P kn wo ga li S kn W hq HF.out KL (Int.le_refl _))
  have H2 := Lib.hid L2
  have H3 := Lib.hid L3
  have c2 : w2.cell? ⟨w.heap.size, 0, none⟩ = some (.pointer (some ⟨h, 0, none⟩)) := L2.cell 0
  have c3 : w2.cell? ⟨w.heap.size + 1, 0, none⟩ = some (.int .i64 m) := L3.cell 0
  have k3 : w2.cell? ⟨h, 3, none⟩ = some (.int .i64 kn) := HP.out.box.cell 3
  have t13 : decide (m ≤ kn) = false := by simp; omega
  clear hp L2 L3 hs hr hm hl hL
  refine (callsIn_wide (n := 8)).1 ?_
  refine callsIn_of_wp_marks Try.func74 rfl trivial ?_ rfl
  simp only [Try.ntmps74, List.size_toArray, List.length_cons, List.length_nil, Nat.reduceAdd, Nat.reduceSub, Array.replicate_succ, Array.replicate_zero, List.push_toArray, List.append_toArray, List.nil_append, List.cons_append]
  gi_wp2
  clear hw2
  refine wpIn_wide.2 ?_
  refine region_T 6 (fun w' => w'.cell? ⟨w.heap.size, 0, none⟩ = some (.pointer (some ⟨h, 0, none⟩)) ∧ w'.cell? ⟨w.heap.size + 1, 0, none⟩ = some (.int .i64 m) ∧ w'.cell? ⟨h, 3, none⟩ = some (.int .i64 kn)) (by kernel_rfl) ⟨c2, c3, k3⟩ (fun hS => ?_)
  refine takeL (i := 0) (v := ?_) rfl (by kernel_rfl) (by kernel_rfl) (by kernel_rfl) (by kernel_rfl) (by kernel_rfl) (fun _ _ _ h => h) (Or.inl ⟨by rfl, ?_⟩) (by assumption) ?_
  rotate_left
  · (intro w' hSw; (try dsimp only at hSw); go_simp; with_reducible rfl)
  try simp only [Act.put, List.setIfInBounds_toArray, List.set_cons_zero, List.set_cons_succ]
  refine takeL (i := 1) (v := ?_) rfl (by kernel_rfl) (by kernel_rfl) (by kernel_rfl) (by kernel_rfl) (by kernel_rfl) (fun _ _ _ h => h) (Or.inl ⟨by rfl, ?_⟩) (by assumption) ?_
  rotate_left
  · (intro w' hSw; (try dsimp only at hSw); go_simp; with_reducible rfl)
  try simp only [Act.put, List.setIfInBounds_toArray, List.set_cons_zero, List.set_cons_succ]
  refine takeL (i := 2) (v := ?_) rfl (by kernel_rfl) (by kernel_rfl) (by kernel_rfl) (by kernel_rfl) (by kernel_rfl) (fun _ _ _ h => h) (Or.inl ⟨by rfl, ?_⟩) (by assumption) ?_
  rotate_left
  · (intro w' hSw; (try dsimp only at hSw); go_simp; with_reducible rfl)
  try simp only [Act.put, List.setIfInBounds_toArray, List.set_cons_zero, List.set_cons_succ]
  refine takeL (i := 3) (v := ?_) rfl (by kernel_rfl) (by kernel_rfl) (by kernel_rfl) (by kernel_rfl) (by kernel_rfl) (fun _ _ _ h => h) (Or.inl ⟨by rfl, ?_⟩) (by assumption) ?_
  rotate_left
  · (intro w' hSw; (try dsimp only at hSw); go_simp; with_reducible rfl)
  try simp only [Act.put, List.setIfInBounds_toArray, List.set_cons_zero, List.set_cons_succ]
  refine takeL (i := 4) (v := ?_) rfl (by kernel_rfl) (by kernel_rfl) (by kernel_rfl) (by kernel_rfl) (by kernel_rfl) (fun _ _ _ h => h) (Or.inl ⟨by rfl, ?_⟩) (by assumption) ?_
  rotate_left
  · (intro w' hSw; (try dsimp only at hSw); go_simp; with_reducible rfl)
  try simp only [Act.put, List.setIfInBounds_toArray, List.set_cons_zero, List.set_cons_succ]
  refine takeL (i := 5) (v := ?_) rfl (by kernel_rfl) (by kernel_rfl) (by kernel_rfl) (by kernel_rfl) (by kernel_rfl) (fun _ _ _ h => h) (Or.inl ⟨by rfl, ?_⟩) (by assumption) ?_
  rotate_left
  · (intro w' hSw; (try dsimp only at hSw); go_simp; with_reducible rfl)
  try simp only [Act.put, List.setIfInBounds_toArray, List.set_cons_zero, List.set_cons_succ]
  refine doneO (by kernel_rfl) ?_ _
  clear hS
  gi_wp2
  obtain ⟨w3, hw3⟩ : ∃ w3, w2.drew = w3 := ⟨_, rfl⟩
  rw [hw3]
  have B3 := Lib.hid (show Below w.heap.size w w3 from hw3 ▸ (B0.out.drew))
  have W3 := Lib.hid (show w3.heap.size = w.heap.size + 2 from hw3 ▸ Z2.out)
  have P3 := Lib.hid (show Idx w3 B h h0 F0 v P kn wo ga li S from hw3 ▸ (HP.out.turn (T := fun _ => False) ((Turn.refl _ w2).drew) (fun _ _ hf => hf)))
  have G2 := Lib.hid (show Lies w3 w.heap.size 84 #[.pointer (some ⟨h, 0, none⟩)] from hw3 ▸ H2.out)
  have G3 := Lib.hid (show Lies w3 (w.heap.size + 1) 3 #[.int .i64 m] from hw3 ▸ H3.out)
  clear hw3 c2 c3 k3 t13 H2 H3 HP B0
  have s0 := run_top HF.out 0 kn.toNat (by omega)
  obtain ⟨s, hse⟩ : ∃ s, run (exm wo ga li S) 0 kn.toNat = s := ⟨_, rfl⟩
  rw [hse] at UP s0
  have HSE := Lib.hid hse
  clear hse
  refine wpIn_wide.2 ?_
  refine Code.wp_mono (Q := fun e a' w' => ∃ b4, e = .normal ∧ a' = { tmps := #[.pointer (some ⟨h, 0, none⟩), .int .i64 m, .pointer (some ⟨w.heap.size, 0, none⟩), .pointer (some ⟨w.heap.size + 1, 0, none⟩), .pointer (some ⟨b4, 0, none⟩), undef, undef, undef, .int .i64 m, .pointer (some ⟨h, 0, none⟩), .pointer (some ⟨h, 0, none⟩), .pointer (some ⟨h, 3, none⟩), .int .i64 kn, .bool false, .pointer (some ⟨h, 0, none⟩), .pointer (some ⟨h, 0, none⟩), .pointer (some ⟨h, 0, none⟩), .pointer (some ⟨h, 3, none⟩), .int .i64 kn, .int .i64 s, undef, undef, undef, undef, undef, undef, undef, undef, undef, undef, undef, undef, undef, undef, undef, undef, undef, undef, undef, undef, undef, undef, undef, undef, undef, undef, undef, undef, undef, undef, undef, undef, undef, undef, undef, undef, undef, undef, undef, undef, undef, undef, undef, undef, undef, undef, undef, undef], defers := [] } ∧ Boxd w3 s b4 w') ?imp ?reg
  case reg =>
    have d2 : w3.drew.cell? ⟨w.heap.size, 0, none⟩ = some (.pointer (some ⟨h, 0, none⟩)) := G2.out.cell 0
    have d3 : w3.drew.cell? ⟨h, 3, none⟩ = some (.int .i64 kn) := P3.out.box.cell 3
    have LH := Lib.hid P3.out.box.lt
    have PD := Lib.hid (show Idx w3.drew B h h0 F0 v P kn wo ga li S from P3.out.turn (T := fun _ => False) ((Turn.refl _ w3).drew) (fun _ _ hf => hf))
    refine region_T 7 (fun w' => w'.cell? ⟨w.heap.size, 0, none⟩ = some (.pointer (some ⟨h, 0, none⟩)) ∧ w'.cell? ⟨h, 3, none⟩ = some (.int .i64 kn)) (by kernel_rfl) ⟨d2, d3⟩ (fun hS => ?_)
    refine takeL (i := 0) (v := ?_) rfl (by kernel_rfl) (by kernel_rfl) (by kernel_rfl) (by kernel_rfl) (by kernel_rfl) (fun _ _ _ h => h) (Or.inl ⟨by rfl, ?_⟩) (by assumption) ?_
    rotate_left
    · (intro w' hSw; (try dsimp only at hSw); go_simp; with_reducible rfl)
    try simp only [Act.put, List.setIfInBounds_toArray, List.set_cons_zero, List.set_cons_succ]
    refine takeL (i := 1) (v := ?_) rfl (by kernel_rfl) (by kernel_rfl) (by kernel_rfl) (by kernel_rfl) (by kernel_rfl) (fun _ _ _ h => h) (Or.inl ⟨by rfl, ?_⟩) (by assumption) ?_
    rotate_left
    · (intro w' hSw; (try dsimp only at hSw); go_simp; with_reducible rfl)
    try simp only [Act.put, List.setIfInBounds_toArray, List.set_cons_zero, List.set_cons_succ]
    refine takeL (i := 2) (v := ?_) rfl (by kernel_rfl) (by kernel_rfl) (by kernel_rfl) (by kernel_rfl) (by kernel_rfl) (fun _ _ _ h => h) (Or.inl ⟨by rfl, ?_⟩) (by assumption) ?_
    rotate_left
    · (intro w' hSw; (try dsimp only at hSw); go_simp; with_reducible rfl)
    try simp only [Act.put, List.setIfInBounds_toArray, List.set_cons_zero, List.set_cons_succ]
    refine takeL (i := 3) (v := ?_) rfl (by kernel_rfl) (by kernel_rfl) (by kernel_rfl) (by kernel_rfl) (by kernel_rfl) (fun _ _ _ h => h) (Or.inl ⟨by rfl, ?_⟩) (by assumption) ?_
    rotate_left
    · (intro w' hSw; (try dsimp only at hSw); go_simp; with_reducible rfl)
    try simp only [Act.put, List.setIfInBounds_toArray, List.set_cons_zero, List.set_cons_succ]
    refine takeL (i := 4) (v := ?_) rfl (by kernel_rfl) (by kernel_rfl) (by kernel_rfl) (by kernel_rfl) (by kernel_rfl) (fun _ _ _ h => h) (Or.inl ⟨by rfl, ?_⟩) (by assumption) ?_
    rotate_left
    · (intro w' hSw; (try dsimp only at hSw); go_simp; with_reducible rfl)
    try simp only [Act.put, List.setIfInBounds_toArray, List.set_cons_zero, List.set_cons_succ]
    refine twoL (i := 5) (j := 6) (by kernel_rfl) rfl rfl (fun K hK => ?_) (fun K hK => ?_)
    · go_simp
      refine (UP.out _ PD.out).mono ?_
      rintro e w4 ⟨rfl, hb⟩
      have B4 := Lib.hid (show Below w3.heap.size w3 w4 from ((Below.refl _ w3).drew).trans hb)
      have y2 := (hb.cell (World.block_lt_of_cell? w3.drew _ d2)).trans d2
      have y3 := (hb.cell (World.block_lt_of_cell? w3.drew _ d3)).trans d3
      clear hb hS
      refine hK.out _ _ (fun _ => ⟨y2, y3⟩) ?_
      clear hK K
      try simp only [Act.put, List.setIfInBounds_toArray, List.set_cons_zero, List.set_cons_succ]
      refine oneL (i := 6) (by kernel_rfl) rfl (fun K hK => ?_)
      go_simp
      have l2 := World.block_lt_of_cell? w4 _ y2
      have l3 := World.block_lt_of_cell? w4 _ y3
      refine hK.out _ _ (fun _ => ⟨(World.cell?_alloc_lt _ _ _ l2).trans y2, (World.cell?_alloc_lt _ _ _ l3).trans y3⟩) ?_
      clear hK K
      try simp only [Act.put, List.setIfInBounds_toArray, List.set_cons_zero, List.set_cons_succ]
      refine oneL (i := 7) (by kernel_rfl) rfl (fun K hK => ?_)
      go_simp
      refine hK.out _ _ (fun h => absurd h (by decide)) ?_
      clear hK K
      refine doneO (by kernel_rfl) ?_ _
      exact ⟨w4.heap.size, rfl, rfl, B4.out.size, Lies.new _ _ _, B4.out.alloc B4.out.size _⟩
    · go_simp
      have l2 := World.block_lt_of_cell? _ _ d2
      have l3 := World.block_lt_of_cell? _ _ d3
      have y2 := (World.cell?_alloc_lt w3.drew (.cells #[.int .i64 0] 3) ⟨w.heap.size, 0, none⟩ l2).trans d2
      have y3 := (World.cell?_alloc_lt w3.drew (.cells #[.int .i64 0] 3) ⟨h, 3, none⟩ l3).trans d3
      clear hS
      refine hK.out _ _ (fun _ => ⟨y2, y3⟩) ?_
      clear hK K
      try simp only [Act.put, List.setIfInBounds_toArray, List.set_cons_zero, List.set_cons_succ]
      have PA := Lib.hid (PD.out.keep (alloc_below w3.drew (.cells #[.int .i64 0] 3)))
      have LA := Lib.hid (Lies.new w3.drew 3 #[.int .i64 0])
      have BA := Lib.hid (show Below w3.heap.size w3 (w3.drew.alloc (.cells #[.int .i64 0] 3)) from ((Below.refl _ w3).drew).alloc (Nat.le_refl _) _)
      refine oneL (i := 5) (by kernel_rfl) rfl (fun K hK => ?_)
      go_simp
      refine (UP.out _ PA.out).mono ?_
      rintro e w4 ⟨rfl, hb⟩
      have B4 := Lib.hid (BA.out.trans (hb.mono BA.out.size))
      have L4 := LA.out.below hb LA.out.lt
      have z2 := (hb.cell (World.block_lt_of_cell? _ _ y2)).trans y2
      have z3 := (hb.cell (World.block_lt_of_cell? _ _ y3)).trans y3
      have z4 : w4.cell? ⟨w3.heap.size, 0, none⟩ = some (.int .i64 0) := L4.cell 0
      have f4 : w4.frozen? ⟨w3.heap.size, 0, none⟩ = false := L4.frozen 0
      have HL4 := Lib.hid L4
      clear hb y2 y3 L4 l2 l3 d2 d3
      refine hK.out _ _ (fun _ => ⟨z2, z3⟩) ?_
      clear hK K
      try simp only [Act.put, List.setIfInBounds_toArray, List.set_cons_zero, List.set_cons_succ]
      refine oneL (i := 7) (by kernel_rfl) rfl (fun K hK => ?_)
      go_simp
      refine hK.out _ _ (fun h => absurd h (by decide)) ?_
      clear hK K
      refine doneO (by kernel_rfl) ?_ _
      exact ⟨w3.heap.size, rfl, rfl, Nat.le_refl _, by have := HL4.out.set_ 0 (.int .i64 s); simpa using this, B4.out.setCell (Nat.le_refl _) _⟩
  case imp =>
    rintro e a' w4 ⟨b4, rfl, rfl, hb4⟩
    obtain ⟨hb4l, hb4s, hb4b⟩ := hb4
    have B4 := Lib.hid hb4b
    have L4 := Lib.hid hb4s
    have LE4 := Lib.hid hb4l
    have P4 := Lib.hid (P3.out.keep hb4b)
    have k2 : w4.cell? ⟨w.heap.size, 0, none⟩ = some (.pointer (some ⟨h, 0, none⟩)) := (G2.out.below hb4b G2.out.lt).cell 0
    have k0 : w4.cell? ⟨h, 0, none⟩ = some (.pointer (some ⟨h0, 0, none⟩)) := P4.out.box.cell 0
    have k3 : w4.cell? ⟨h, 3, none⟩ = some (.int .i64 kn) := P4.out.box.cell 3
    clear hb4b hb4s hb4l UP
    gi_wp2
    refine wpIn_wide.2 ?_
    refine region_T 8 (fun w' => w'.cell? ⟨w.heap.size, 0, none⟩ = some (.pointer (some ⟨h, 0, none⟩)) ∧ w'.cell? ⟨h, 0, none⟩ = some (.pointer (some ⟨h0, 0, none⟩)) ∧ w'.cell? ⟨h, 3, none⟩ = some (.int .i64 kn)) (by kernel_rfl) ⟨k2, k0, k3⟩ (fun hS => ?_)
    refine takeL (i := 0) (v := ?_) rfl (by kernel_rfl) (by kernel_rfl) (by kernel_rfl) (by kernel_rfl) (by kernel_rfl) (fun _ _ _ h => h) (Or.inl ⟨by rfl, ?_⟩) (by assumption) ?_
    rotate_left
    · (intro w' hSw; (try dsimp only at hSw); go_simp; with_reducible rfl)
    try simp only [Act.put, List.setIfInBounds_toArray, List.set_cons_zero, List.set_cons_succ]
    refine takeL (i := 1) (v := ?_) rfl (by kernel_rfl) (by kernel_rfl) (by kernel_rfl) (by kernel_rfl) (by kernel_rfl) (fun _ _ _ h => h) (Or.inl ⟨by rfl, ?_⟩) (by assumption) ?_
    rotate_left
    · (intro w' hSw; (try dsimp only at hSw); go_simp; with_reducible rfl)
    try simp only [Act.put, List.setIfInBounds_toArray, List.set_cons_zero, List.set_cons_succ]
    refine takeL (i := 2) (v := ?_) rfl (by kernel_rfl) (by kernel_rfl) (by kernel_rfl) (by kernel_rfl) (by kernel_rfl) (fun _ _ _ h => h) (Or.inl ⟨by rfl, ?_⟩) (by assumption) ?_
    rotate_left
    · (intro w' hSw; (try dsimp only at hSw); go_simp; with_reducible rfl)
    try simp only [Act.put, List.setIfInBounds_toArray, List.set_cons_zero, List.set_cons_succ]
    refine takeL (i := 3) (v := ?_) rfl (by kernel_rfl) (by kernel_rfl) (by kernel_rfl) (by kernel_rfl) (by kernel_rfl) (fun _ _ _ h => h) (Or.inl ⟨by rfl, ?_⟩) (by assumption) ?_
    rotate_left
    · (intro w' hSw; (try dsimp only at hSw); go_simp; with_reducible rfl)
    try simp only [Act.put, List.setIfInBounds_toArray, List.set_cons_zero, List.set_cons_succ]
    refine takeL (i := 4) (v := ?_) rfl (by kernel_rfl) (by kernel_rfl) (by kernel_rfl) (by kernel_rfl) (by kernel_rfl) (fun _ _ _ h => h) (Or.inl ⟨by rfl, ?_⟩) (by assumption) ?_
    rotate_left
    · (intro w' hSw; (try dsimp only at hSw); go_simp; with_reducible rfl)
    try simp only [Act.put, List.setIfInBounds_toArray, List.set_cons_zero, List.set_cons_succ]
    refine takeL (i := 5) (v := ?_) rfl (by kernel_rfl) (by kernel_rfl) (by kernel_rfl) (by kernel_rfl) (by kernel_rfl) (fun _ _ _ h => h) (Or.inl ⟨by rfl, ?_⟩) (by assumption) ?_
    rotate_left
    · (intro w' hSw; (try dsimp only at hSw); go_simp; with_reducible rfl)
    try simp only [Act.put, List.setIfInBounds_toArray, List.set_cons_zero, List.set_cons_succ]
    refine takeL (i := 6) (v := ?_) rfl (by kernel_rfl) (by kernel_rfl) (by kernel_rfl) (by kernel_rfl) (by kernel_rfl) (fun _ _ _ h => h) (Or.inl ⟨by rfl, ?_⟩) (by assumption) ?_
    rotate_left
    · (intro w' hSw; (try dsimp only at hSw); go_simp; with_reducible rfl)
    try simp only [Act.put, List.setIfInBounds_toArray, List.set_cons_zero, List.set_cons_succ]
    refine takeL (i := 7) (v := ?_) rfl (by kernel_rfl) (by kernel_rfl) (by kernel_rfl) (by kernel_rfl) (by kernel_rfl) (fun _ _ _ h => h) (Or.inl ⟨by rfl, ?_⟩) (by assumption) ?_
    rotate_left
    · (intro w' hSw; (try dsimp only at hSw); go_simp; with_reducible rfl)
    try simp only [Act.put, List.setIfInBounds_toArray, List.set_cons_zero, List.set_cons_succ]
    refine oneL (i := 8) (by kernel_rfl) rfl (fun K hK => ?_)
    go_simp
    refine (runs_make kn 1048576 h0 _).mono ?_
    rintro e w5 ⟨rfl, hb, C3, C1, C2, Z5⟩
    clear Z5
    have E5 : Below w4.heap.size w4 w5 := ((Below.refl _ w4).drew).trans hb
    have P5 := Lib.hid (P4.out.keep E5)
    have L5 := Lib.hid (L4.out.below E5 L4.out.lt)
    have G25 := Lib.hid ((G2.out.below B4.out G2.out.lt).below E5 (Nat.lt_of_lt_of_le G2.out.lt B4.out.size))
    have G35 := Lib.hid ((G3.out.below B4.out G3.out.lt).below E5 (Nat.lt_of_lt_of_le G3.out.lt B4.out.size))
    have B5 := Lib.hid (B3.out.trans ((B4.out.trans (E5.mono B4.out.size)).mono B3.out.size))
    have M1 := Lib.hid C1
    have M2 := Lib.hid C2
    have M3 := Lib.hid C3
    clear hb C1 C2 C3 E5 k2 k0 k3 hS
    refine hK.out _ _ (fun h => absurd h (by decide)) ?_
    clear hK K
    refine doneO (by kernel_rfl) ?_ _
    gi_wp2
    obtain ⟨bb, hbb⟩ : ∃ bb, w4.drew.heap.size = bb := ⟨_, rfl⟩
    rw [hbb] at M1 M2 M3 ⊢
    have HBB := Lib.hid (show w4.heap.size = bb from hbb)
    clear hbb
    have ZZ := Lib.hid (show w.heap.size + 2 ≤ b4 ∧ b4 < bb ∧ bb + 2 < w5.heap.size ∧ h < w.heap.size ∧ (∀ k, F0 k → k < w.heap.size) ∧ (∀ k, v.ownBlock = some k → k < w.heap.size) from by
      have h1 := LE4.out
      have h2 := L4.out.lt
      have h3 := M2.out.lt
      have h4 := HBB.out
      have h5 := W3.out
      exact ⟨by omega, by omega, by omega, HL.out, fun k hk => (HW.out.foot (.inr (.inl hk))).2, fun k hk => (HW.out.foot (.inr (.inr hk))).2⟩)
    have RS := runs_stops 7 (by omega) (fun k => k = h ∨ v.ownBlock = some k ∨ k = b4) B h0 (bb + 1) (bb + 1 + 1) bb F0 wo ga li kn 1048576 S w5 P5.out.ser HG.out.1 HG.out.2.1 HG.out.2.2.1 HG.out.2.2.2 KL KH (by omega) (by omega) M1.out M2.out M3.out
      (fun k hk => by
        obtain ⟨z1, z2, z3, z4, z5, z6⟩ := ZZ.out
        rcases hk with rfl | hk | rfl
        · exact ⟨HW.out.out, by omega, by omega, by omega⟩
        · have := z6 k hk
          exact ⟨(HW.out.far k hk).2, by omega, by omega, by omega⟩
        · exact ⟨fun hf => by have := z5 _ hf; omega, by omega, by omega, by omega⟩)
    have RK := Lib.hid P5.out.rk
    have KN := Lib.hid (fun W pre (hU : Upon w5 B h h0 v P kn li b4 (exm wo ga li S) s pre W) (hR : Rec (exm wo ga li S) (P ++ mkP (exm wo ga li S) s pre) (endOf kn pre)) (hm' : m ≤ endOf kn pre) => show Known w B h h0 F0 v m wo ga li S W from by
      obtain ⟨v', h1, h2, h3, h4, h5⟩ := hU
      obtain ⟨z1, z2, z3, z4, z5, z6⟩ := ZZ.out
      have nT : ∀ k, k < w.heap.size → ¬ k = h → ¬ v.ownBlock = some k → ¬ (k = h ∨ v.ownBlock = some k ∨ k = b4) := fun k k1 k2 k3 hh => by
        rcases hh with hh | hh | hh
        · exact k2 hh
        · exact k3 hh
        · omega
      refine ⟨v', _, _, ⟨HW.out.low, h1, face.turn P5.out.ser h4 (fun k hk => nT k (z5 k hk) (fun e => HW.out.out (e ▸ hk)) (fun e => (HW.out.far k e).2 hk)), h2, HW.out.out, fun k hk => ?_, hR⟩, hm', (Turn.of_below (S := fun k => k = h ∨ v.ownBlock = some k) B5.out).trans h4 (fun k hk => ?_), fun k hk => ?_⟩
      · rcases h5 k hk with hh | hh
        · exact HW.out.far k hh
        · exact ⟨by omega, fun hf => by have := z5 k hf; omega⟩
      · rcases hk with hh | hh | hh
        · exact .inl (.inl hh)
        · exact .inl (.inr hh)
        · exact .inr (by omega)
      · rcases h5 k hk with hh | hh
        · exact .inl hh
        · exact .inr (by omega))
    have UO := Lib.hid (fun W D pre (hU : Upon w5 B h h0 v P kn li b4 (exm wo ga li S) s pre W) (hD : w5.heap.size ≤ D) (o o' : Obj) (ho : W.heap[D]? = some o) (hc : o.isCells = false) => upon_own w5 B h h0 v P kn li b4 (exm wo ga li S) s pre W _ (some D) hU (grownBy_putObj' W D o') (fun r e => by cases e; exact ⟨hD, _, ho, hc⟩))
    generalize exm wo ga li S = f at *
    refine wpIn_rangeFunc_ownG (w := w5) (n := 8) (encs := rcs) (ps := #[29, 30]) rfl (by omega) (gf := 83) (lb := #[.pointer (some ⟨bb + 1, 0, none⟩), .pointer (some ⟨bb + 1 + 1, 0, none⟩), .pointer (some ⟨bb, 0, none⟩)]) rfl trivial (enters_of Try.func83 (by kernel_rfl) rfl)
      RS kept_t (fun W l o o' hl => kept_b W l o o' hl) (Below.refl _ _) (fun _ => rfl)
      (Upon w5 B h h0 v P kn li b4 f s)
      (fun c pre W => c = Code.exit 0 ∧ Upon w5 B h h0 v P kn li b4 f s pre W ∧ m ≤ endOf kn pre)
      (upon_own w5 B h h0 v P kn li b4 f s)
      (fun c pre A C row hs hg hr => ⟨hs.1, upon_own w5 B h h0 v P kn li b4 f s pre A C row hs.2.1 hg hr, hs.2.2⟩)
      ⟨v, P5.out.box, by rw [mkP_nil, List.append_nil]; exact P5.out.row, L5.out, Turn.refl _ _, fun _ hk => .inl hk⟩
      (fun x => { tmps := #[.pointer (some ⟨h, 0, none⟩), .int .i64 m, .pointer (some ⟨w.heap.size, 0, none⟩), .pointer (some ⟨w.heap.size + 1, 0, none⟩), .pointer (some ⟨b4, 0, none⟩), .int .i64 x.1.1, .int .i64 x.1.2, undef, .int .i64 m, .pointer (some ⟨h, 0, none⟩), .pointer (some ⟨h, 0, none⟩), .pointer (some ⟨h, 3, none⟩), .int .i64 kn, .bool false, .pointer (some ⟨h, 0, none⟩), .pointer (some ⟨h, 0, none⟩), .pointer (some ⟨h, 0, none⟩), .pointer (some ⟨h, 3, none⟩), .int .i64 kn, .int .i64 s, .pointer (some ⟨h, 0, none⟩), .pointer (some ⟨h, 0, none⟩), .pointer (some ⟨h, 0, none⟩), .pointer (some ⟨h0, 0, none⟩), .pointer (some ⟨h, 0, none⟩), .pointer (some ⟨h, 0, none⟩), .pointer (some ⟨h, 3, none⟩), .int .i64 kn, .func (.func 83) #[] #[.pointer (some ⟨bb + 1, 0, none⟩), .pointer (some ⟨bb + 1 + 1, 0, none⟩), .pointer (some ⟨bb, 0, none⟩)], .int .i64 x.1.1, .int .i64 x.1.2, undef, undef, undef, undef, undef, undef, undef, undef, undef, undef, undef, undef, undef, undef, undef, undef, undef, undef, undef, undef, undef, undef, undef, undef, undef, undef, undef, undef, undef, undef, undef, undef, undef, undef, undef, undef, undef], defers := [] }) ?assign ?body ?done ?stop
    case assign =>
      intro l x W K hK
      gi_wp2
      exact hK
    case done =>
      rintro D ys W hD hys hU hK
      have E1 := Lib.hid (endOf_chn hys)
      have RC := Lib.hid (rec_chn HF.out RK.out hys (by omega) HSE.out.symm)
      have HU := Lib.hid hU
      have HD := Lib.hid hD
      clear hys hU hD RS
      gi_wp2
      refine ⟨by simp, .inl ⟨_, _, rfl, run_takeDeferred hK, ?_⟩⟩
      exact ⟨_, results_none rfl _ _ _, ⟨_, rfl⟩, KN.out _ ys (UO.out W D ys HU.out HD.out _ _ hK rfl) (by rw [E1.out]; exact RC.out) (by rw [E1.out]; omega)⟩
    case stop =>
      rintro D c pre W hD ⟨c1, hc, hc1⟩ ⟨rfl, hU, hm'⟩ hK
      have E1 := Lib.hid (endOf_chn hc)
      have RC := Lib.hid (rec_chn HF.out RK.out hc hc1 HSE.out.symm)
      have HU := Lib.hid hU
      have HD := Lib.hid hD
      have HM := Lib.hid hm'
      clear hc hU hD RS hm'
      gi_wp2
      refine ⟨by simp, .inl ⟨_, _, rfl, run_takeDeferred hK, ?_⟩⟩
      exact ⟨_, results_none rfl _ _ _, ⟨_, rfl⟩, KN.out _ pre (UO.out W D pre HU.out HD.out _ _ hK rfl) (by rw [E1.out]; exact RC.out) HM.out⟩
    case body =>
      rintro l pre x W ⟨v', hI, hR, h4, hT, hV⟩ hlen
      have HFS := Lib.hid (fold_snoc f s pre x)
      have HPS := Lib.hid (mkP_snoc f s pre x)
      have HES := Lib.hid (endOf_snoc kn pre x)
      have HPL := Lib.hid (mkP_len f pre s)
      obtain ⟨⟨sx, ex⟩, x0, x1, x2⟩ := x
      simp only at x0 x1 x2 HFS HPS HES ⊢
      have ZB := Lib.hid (show ¬ (w.heap.size = h ∨ v.ownBlock = some w.heap.size ∨ w.heap.size = b4) ∧ ¬ (w.heap.size + 1 = h ∨ v.ownBlock = some (w.heap.size + 1) ∨ w.heap.size + 1 = b4) ∧ ∀ k, F0 k → ¬ (k = h ∨ v.ownBlock = some k ∨ k = b4) from by
        obtain ⟨z1, z2, z3, z4, z5, z6⟩ := ZZ.out
        refine ⟨fun hh => ?_, fun hh => ?_, fun k hk hh => ?_⟩
        · rcases hh with hh | hh | hh
          · omega
          · have := z6 _ hh
            omega
          · omega
        · rcases hh with hh | hh | hh
          · omega
          · have := z6 _ hh
            omega
          · omega
        · have := z5 k hk
          rcases hh with hh | hh | hh
          · exact HW.out.out (hh ▸ hk)
          · exact (HW.out.far k hh).2 hk
          · omega)
      have BX := Lib.hid (G25.out.turn hT ZB.out.1)
      have BM := Lib.hid (G35.out.turn hT ZB.out.2.1)
      have y2 : W.drew.cell? ⟨w.heap.size, 0, none⟩ = some (.pointer (some ⟨h, 0, none⟩)) := BX.out.cell 0
      have y4 : W.drew.cell? ⟨b4, 0, none⟩ = some (.int .i64 (fold f s pre)) := h4.cell 0
      have yi0 : W.drew.cell? ⟨h, 0, none⟩ = some (.pointer (some ⟨h0, 0, none⟩)) := hI.cell 0
      have yi1 : W.drew.cell? ⟨h, 1, none⟩ = some (.int .i64 li) := hI.cell 1
      have XC := Lib.hid (fun A (hb : Below W.drew.heap.size W.drew A) => XS.out A sx (face.keep (face.turn P5.out.ser (hT.drew) ZB.out.2.2) hb) x0 (by omega))
      have FB := fold_bd HF.out (s0 := s) s0.1 (by omega) pre
      have FM := HF.out sx
      have LG := Lib.hid (fun A => longer_any (fold f s pre) (f sx) (ex - sx) A FB.1 FB.2 FM.1 FM.2 (by omega) (by omega))
      have HI := Lib.hid hI
      have HR := Lib.hid hR
      have H4 := Lib.hid h4
      have HT := Lib.hid hT
      have HV := Lib.hid hV
      have HN := Lib.hid hlen
      clear hI hR h4 hT hV RS FB FM hlen
      generalize hfo : fold f s pre = fo at *
      generalize hfx : f sx = fx at *
      clear hfo hfx
      gi_wp2
      refine wpIn_mono (Q := fun e a' w' => ∃ b7, e = .normal ∧ a' = { tmps := #[.pointer (some ⟨h, 0, none⟩), .int .i64 m, .pointer (some ⟨w.heap.size, 0, none⟩), .pointer (some ⟨w.heap.size + 1, 0, none⟩), .pointer (some ⟨b4, 0, none⟩), .int .i64 sx, .int .i64 ex, .pointer (some ⟨b7, 0, none⟩), .int .i64 m, .pointer (some ⟨h, 0, none⟩), .pointer (some ⟨h, 0, none⟩), .pointer (some ⟨h, 3, none⟩), .int .i64 kn, .bool false, .pointer (some ⟨h, 0, none⟩), .pointer (some ⟨h, 0, none⟩), .pointer (some ⟨h, 0, none⟩), .pointer (some ⟨h, 3, none⟩), .int .i64 kn, .int .i64 s, .pointer (some ⟨h, 0, none⟩), .pointer (some ⟨h, 0, none⟩), .pointer (some ⟨h, 0, none⟩), .pointer (some ⟨h0, 0, none⟩), .pointer (some ⟨h, 0, none⟩), .pointer (some ⟨h, 0, none⟩), .pointer (some ⟨h, 3, none⟩), .int .i64 kn, .func (.func 83) #[] #[.pointer (some ⟨bb + 1, 0, none⟩), .pointer (some ⟨bb + 1 + 1, 0, none⟩), .pointer (some ⟨bb, 0, none⟩)], .int .i64 sx, .int .i64 ex, .int .i64 sx, .int .i64 fo, .pointer (some ⟨h, 0, none⟩), .pointer (some ⟨h, 0, none⟩), .pointer (some ⟨h, 0, none⟩), .pointer (some ⟨h0, 0, none⟩), .pointer (some ⟨h, 0, none⟩), .pointer (some ⟨h, 0, none⟩), .pointer (some ⟨h, 1, none⟩), .int .i64 li, .int .i64 sx, .int .i64 fx, .agg #[.int .i64 sx, .int .i64 fo, .int .i64 fx], undef, undef, undef, undef, undef, undef, undef, undef, undef, undef, undef, undef, undef, undef, undef, undef, undef, undef, undef, undef, undef, undef, undef, undef], defers := [] } ∧ Boxp W sx fo fx b7 w') ?reg6 ?imp6
      case reg6 =>
        refine round_T 14 (fun w' => w'.cell? ⟨w.heap.size, 0, none⟩ = some (.pointer (some ⟨h, 0, none⟩)) ∧ w'.cell? ⟨b4, 0, none⟩ = some (.int .i64 fo) ∧ w'.cell? ⟨h, 0, none⟩ = some (.pointer (some ⟨h0, 0, none⟩)) ∧ w'.cell? ⟨h, 1, none⟩ = some (.int .i64 li)) (by kernel_rfl) (by kernel_rfl) ⟨y2, y4, yi0, yi1⟩ (fun hS => ?_)
        refine takeL (i := 0) (v := ?_) rfl (by kernel_rfl) (by kernel_rfl) (by kernel_rfl) (by kernel_rfl) (by kernel_rfl) (fun _ _ _ h => h) (Or.inl ⟨by rfl, ?_⟩) (by assumption) ?_
        rotate_left
        · (intro w' hSw; (try dsimp only at hSw); go_simp; with_reducible rfl)
        try simp only [Act.put, List.setIfInBounds_toArray, List.set_cons_zero, List.set_cons_succ]
        refine takeL (i := 1) (v := ?_) rfl (by kernel_rfl) (by kernel_rfl) (by kernel_rfl) (by kernel_rfl) (by kernel_rfl) (fun _ _ _ h => h) (Or.inl ⟨by rfl, ?_⟩) (by assumption) ?_
        rotate_left
        · (intro w' hSw; (try dsimp only at hSw); go_simp; with_reducible rfl)
        try simp only [Act.put, List.setIfInBounds_toArray, List.set_cons_zero, List.set_cons_succ]
        refine takeL (i := 2) (v := ?_) rfl (by kernel_rfl) (by kernel_rfl) (by kernel_rfl) (by kernel_rfl) (by kernel_rfl) (fun _ _ _ h => h) (Or.inl ⟨by rfl, ?_⟩) (by assumption) ?_
        rotate_left
        · (intro w' hSw; (try dsimp only at hSw); go_simp; with_reducible rfl)
        try simp only [Act.put, List.setIfInBounds_toArray, List.set_cons_zero, List.set_cons_succ]
        refine takeL (i := 3) (v := ?_) rfl (by kernel_rfl) (by kernel_rfl) (by kernel_rfl) (by kernel_rfl) (by kernel_rfl) (fun _ _ _ h => h) (Or.inl ⟨by rfl, ?_⟩) (by assumption) ?_
        rotate_left
        · (intro w' hSw; (try dsimp only at hSw); go_simp; with_reducible rfl)
        try simp only [Act.put, List.setIfInBounds_toArray, List.set_cons_zero, List.set_cons_succ]
        refine takeL (i := 4) (v := ?_) rfl (by kernel_rfl) (by kernel_rfl) (by kernel_rfl) (by kernel_rfl) (by kernel_rfl) (fun _ _ _ h => h) (Or.inl ⟨by rfl, ?_⟩) (by assumption) ?_
        rotate_left
        · (intro w' hSw; (try dsimp only at hSw); go_simp; with_reducible rfl)
        try simp only [Act.put, List.setIfInBounds_toArray, List.set_cons_zero, List.set_cons_succ]
        refine takeL (i := 5) (v := ?_) rfl (by kernel_rfl) (by kernel_rfl) (by kernel_rfl) (by kernel_rfl) (by kernel_rfl) (fun _ _ _ h => h) (Or.inl ⟨by rfl, ?_⟩) (by assumption) ?_
        rotate_left
        · (intro w' hSw; (try dsimp only at hSw); go_simp; with_reducible rfl)
        try simp only [Act.put, List.setIfInBounds_toArray, List.set_cons_zero, List.set_cons_succ]
        refine takeL (i := 6) (v := ?_) rfl (by kernel_rfl) (by kernel_rfl) (by kernel_rfl) (by kernel_rfl) (by kernel_rfl) (fun _ _ _ h => h) (Or.inl ⟨by rfl, ?_⟩) (by assumption) ?_
        rotate_left
        · (intro w' hSw; (try dsimp only at hSw); go_simp; with_reducible rfl)
        try simp only [Act.put, List.setIfInBounds_toArray, List.set_cons_zero, List.set_cons_succ]
        refine takeL (i := 7) (v := ?_) rfl (by kernel_rfl) (by kernel_rfl) (by kernel_rfl) (by kernel_rfl) (by kernel_rfl) (fun _ _ _ h => h) (Or.inl ⟨by rfl, ?_⟩) (by assumption) ?_
        rotate_left
        · (intro w' hSw; (try dsimp only at hSw); go_simp; with_reducible rfl)
        try simp only [Act.put, List.setIfInBounds_toArray, List.set_cons_zero, List.set_cons_succ]
        refine takeL (i := 8) (v := ?_) rfl (by kernel_rfl) (by kernel_rfl) (by kernel_rfl) (by kernel_rfl) (by kernel_rfl) (fun _ _ _ h => h) (Or.inl ⟨by rfl, ?_⟩) (by assumption) ?_
        rotate_left
        · (intro w' hSw; (try dsimp only at hSw); go_simp; with_reducible rfl)
        try simp only [Act.put, List.setIfInBounds_toArray, List.set_cons_zero, List.set_cons_succ]
        refine takeL (i := 9) (v := ?_) rfl (by kernel_rfl) (by kernel_rfl) (by kernel_rfl) (by kernel_rfl) (by kernel_rfl) (fun _ _ _ h => h) (Or.inl ⟨by rfl, ?_⟩) (by assumption) ?_
        rotate_left
        · (intro w' hSw; (try dsimp only at hSw); go_simp; with_reducible rfl)
        try simp only [Act.put, List.setIfInBounds_toArray, List.set_cons_zero, List.set_cons_succ]
        refine takeL (i := 10) (v := ?_) rfl (by kernel_rfl) (by kernel_rfl) (by kernel_rfl) (by kernel_rfl) (by kernel_rfl) (fun _ _ _ h => h) (Or.inl ⟨by rfl, ?_⟩) (by assumption) ?_
        rotate_left
        · (intro w' hSw; (try dsimp only at hSw); go_simp; with_reducible rfl)
        try simp only [Act.put, List.setIfInBounds_toArray, List.set_cons_zero, List.set_cons_succ]
        refine twoL (i := 11) (j := 13) (by kernel_rfl) rfl rfl (fun K hK => ?_) (fun K hK => ?_)
        · go_simp
          refine (XC.out _ (Below.refl _ _)).mono ?_
          rintro e w6 ⟨rfl, hb⟩
          have B6 := Lib.hid (show Below W.heap.size W w6 from ((Below.refl _ W).drew).trans hb)
          have z2 := (hb.cell (World.block_lt_of_cell? _ _ y2)).trans y2
          have z4 := (hb.cell (World.block_lt_of_cell? _ _ y4)).trans y4
          have zi0 := (hb.cell (World.block_lt_of_cell? _ _ yi0)).trans yi0
          have zi1 := (hb.cell (World.block_lt_of_cell? _ _ yi1)).trans yi1
          clear hb hS y2 y4 yi0 yi1
          refine hK.out _ _ (fun _ => ⟨z2, z4, zi0, zi1⟩) ?_
          clear hK K
          try simp only [Act.put, List.setIfInBounds_toArray, List.set_cons_zero, List.set_cons_succ]
          have hS := And.intro z2 (And.intro z4 (And.intro zi0 zi1))
          refine takeL (i := 12) (v := ?_) rfl (by kernel_rfl) (by kernel_rfl) (by kernel_rfl) (by kernel_rfl) (by kernel_rfl) (fun _ _ _ h => h) (Or.inl ⟨by rfl, ?_⟩) (by assumption) ?_
          rotate_left
          · (intro w' hSw; (try dsimp only at hSw); go_simp; with_reducible rfl)
          try simp only [Act.put, List.setIfInBounds_toArray, List.set_cons_zero, List.set_cons_succ]
          refine oneL (i := 13) (by kernel_rfl) rfl (fun K hK => ?_)
          go_simp
          have l2 := World.block_lt_of_cell? _ _ z2
          have l4 := World.block_lt_of_cell? _ _ z4
          have li0 := World.block_lt_of_cell? _ _ zi0
          have li1 := World.block_lt_of_cell? _ _ zi1
          refine hK.out _ _ (fun _ => ⟨(World.cell?_alloc_lt _ _ _ l2).trans z2, (World.cell?_alloc_lt _ _ _ l4).trans z4, (World.cell?_alloc_lt _ _ _ li0).trans zi0, (World.cell?_alloc_lt _ _ _ li1).trans zi1⟩) ?_
          clear hK K
          try simp only [Act.put, List.setIfInBounds_toArray, List.set_cons_zero, List.set_cons_succ]
          refine oneL (i := 14) (by kernel_rfl) rfl (fun K hK => ?_)
          go_simp
          refine hK.out _ _ (fun h => absurd h (by decide)) ?_
          clear hK K
          refine doneO (by kernel_rfl) ?_ _
          exact ⟨w6.heap.size, rfl, rfl, B6.out.size, Lies.new _ _ _, B6.out.alloc B6.out.size _⟩
        · go_simp
          have BA := Lib.hid (alloc_below W.drew (.cells #[.int .i64 0, .int .i64 0, .int .i64 0] 109))
          have LA := Lib.hid (Lies.new W.drew 109 #[.int .i64 0, .int .i64 0, .int .i64 0])
          have z2 := (BA.out.cell (World.block_lt_of_cell? _ _ y2)).trans y2
          have z4 := (BA.out.cell (World.block_lt_of_cell? _ _ y4)).trans y4
          have zi0 := (BA.out.cell (World.block_lt_of_cell? _ _ yi0)).trans yi0
          have zi1 := (BA.out.cell (World.block_lt_of_cell? _ _ yi1)).trans yi1
          clear hS y2 y4 yi0 yi1
          refine hK.out _ _ (fun _ => ⟨z2, z4, zi0, zi1⟩) ?_
          clear hK K
          try simp only [Act.put, List.setIfInBounds_toArray, List.set_cons_zero, List.set_cons_succ]
          refine oneL (i := 11) (by kernel_rfl) rfl (fun K hK => ?_)
          go_simp
          refine (XC.out _ BA.out).mono ?_
          rintro e w6 ⟨rfl, hb⟩
          have B6 := Lib.hid (show Below W.heap.size W w6 from ((Below.refl _ W).drew).trans (BA.out.trans (hb.mono BA.out.size)))
          have L6 := Lib.hid (LA.out.below hb LA.out.lt)
          have u2 := (hb.cell (World.block_lt_of_cell? _ _ z2)).trans z2
          have u4 := (hb.cell (World.block_lt_of_cell? _ _ z4)).trans z4
          have ui0 := (hb.cell (World.block_lt_of_cell? _ _ zi0)).trans zi0
          have ui1 := (hb.cell (World.block_lt_of_cell? _ _ zi1)).trans zi1
          clear hb z2 z4 zi0 zi1
          refine hK.out _ _ (fun _ => ⟨u2, u4, ui0, ui1⟩) ?_
          clear hK K
          try simp only [Act.put, List.setIfInBounds_toArray, List.set_cons_zero, List.set_cons_succ]
          have hS := And.intro u2 (And.intro u4 (And.intro ui0 ui1))
          refine takeL (i := 12) (v := ?_) rfl (by kernel_rfl) (by kernel_rfl) (by kernel_rfl) (by kernel_rfl) (by kernel_rfl) (fun _ _ _ h => h) (Or.inl ⟨by rfl, ?_⟩) (by assumption) ?_
          rotate_left
          · (intro w' hSw; (try dsimp only at hSw); go_simp; with_reducible rfl)
          try simp only [Act.put, List.setIfInBounds_toArray, List.set_cons_zero, List.set_cons_succ]
          have p0 : w6.cell? ⟨W.heap.size, 0, none⟩ = some (.int .i64 0) := L6.out.cell 0
          have p1 : w6.cell? ⟨W.heap.size, 1, none⟩ = some (.int .i64 0) := L6.out.cell 1
          have p2 : w6.cell? ⟨W.heap.size, 2, none⟩ = some (.int .i64 0) := L6.out.cell 2
          have g0 : w6.frozen? ⟨W.heap.size, 0, none⟩ = false := L6.out.frozen 0
          have g1 : w6.frozen? ⟨W.heap.size, 1, none⟩ = false := L6.out.frozen 1
          have g2 : w6.frozen? ⟨W.heap.size, 2, none⟩ = false := L6.out.frozen 2
          refine oneL (i := 14) (by kernel_rfl) rfl (fun K hK => ?_)
          go_simp
          refine hK.out _ _ (fun h => absurd h (by decide)) ?_
          clear hK K
          refine doneO (by kernel_rfl) ?_ _
          exact ⟨W.heap.size, rfl, rfl, Nat.le_refl _, by have := ((L6.out.set_ 0 (.int .i64 sx)).set_ 1 (.int .i64 fo)).set_ 2 (.int .i64 fx); simpa using this, ((B6.out.setCell (p := ⟨W.heap.size, 0, none⟩) (Nat.le_refl _) _).setCell (p := ⟨W.heap.size, 1, none⟩) (Nat.le_refl _) _).setCell (p := ⟨W.heap.size, 2, none⟩) (Nat.le_refl _) _⟩
      case imp6 =>
        rintro e a' w6 ⟨b7, rfl, rfl, hb7⟩
        obtain ⟨q1, q2, q3⟩ := hb7
        have LQ := Lib.hid q1
        have L7 := Lib.hid q2
        have B6 := Lib.hid q3
        have u4 : w6.cell? ⟨b4, 0, none⟩ = some (.int .i64 fo) := (H4.out.below q3 H4.out.lt).cell 0
        have p2 : w6.cell? ⟨b7, 2, none⟩ = some (.int .i64 fx) := q2.cell 2
        clear q1 q2 q3 y2 y4 yi0 yi1 XC
        gi_wp2_with fail
        refine ⟨trivial, (CallsIn.inRound l (callsIn_wide.2 (LG.out _))).mono ?_⟩
        rintro e w7 ⟨rfl, hb⟩
        have B7 := Lib.hid (B6.out.trans (hb.mono B6.out.size))
        have L77 := Lib.hid (L7.out.below hb L7.out.lt)
        have u4' : w7.cell? ⟨b4, 0, none⟩ = some (.int .i64 fo) := (H4.out.below B7.out H4.out.lt).cell 0
        have g4 : w7.frozen? ⟨b4, 0, none⟩ = false := (H4.out.below B7.out H4.out.lt).frozen 0
        clear hb u4 p2 L7 B6 LG
        generalize hf2 : St.St.cap (fo + fx * (ex - sx)) = fo2 at *
        clear hf2
        obtain ⟨w8, hw8⟩ : ∃ w8, w7.setCell ⟨b4, 0, none⟩ (.int .i64 fo2) = w8 := ⟨_, rfl⟩
        have T8 := Lib.hid (show Turn (fun k => k = b4) W w8 from hw8 ▸ ((Turn.of_below (S := fun k => k = b4) B7.out).setCell (p := ⟨b4, 0, none⟩) (.inl rfl) _))
        have NB := Lib.hid (show w.heap.size ≠ b4 ∧ w.heap.size + 1 ≠ b4 ∧ h ≠ b4 ∧ b7 ≠ b4 ∧ h ≠ b7 ∧ w.heap.size ≠ h ∧ b7 ≠ h from by
          obtain ⟨z1, z2, z3, z4, z5, z6⟩ := ZZ.out
          have h1 := H4.out.lt
          have h2 := HI.out.lt
          have h3 := LQ.out
          exact ⟨by omega, by omega, by omega, by omega, by omega, by omega, by omega⟩)
        have X8 := Lib.hid (BX.out.turn T8.out NB.out.1)
        have M8 := Lib.hid (BM.out.turn T8.out NB.out.2.1)
        have I8 := Lib.hid (HI.out.turn T8.out NB.out.2.2.1)
        have OB := Lib.hid (own_blk_ne HR.out H4.out (by decide))
        have R8 := Lib.hid (own_turn HR.out T8.out (fun k hk e => OB.out (e ▸ hk)))
        have P8 := Lib.hid (show Lies w8 b7 109 #[.int .i64 sx, .int .i64 fo, .int .i64 fx] from L77.out.turn (hw8 ▸ ((Turn.refl (fun k => k = b4) w7).setCell (p := ⟨b4, 0, none⟩) (.inl rfl) _)) NB.out.2.2.2.1)
        have S8 := Lib.hid (show Lies w8 b4 3 #[.int .i64 fo2] from by
          rw [← hw8]
          have := (H4.out.below B7.out H4.out.lt).set_ 0 (.int .i64 fo2)
          simpa using this)
        clear L77 B7
        gi_wp2
        clear hw8 u4' g4
        obtain ⟨qv, dv, rfl⟩ := own_slice R8.out
        have v2 : w8.drew.cell? ⟨w.heap.size, 0, none⟩ = some (.pointer (some ⟨h, 0, none⟩)) := X8.out.cell 0
        have vp0 : w8.drew.cell? ⟨b7, 0, none⟩ = some (.int .i64 sx) := P8.out.cell 0
        have vp1 : w8.drew.cell? ⟨b7, 1, none⟩ = some (.int .i64 fo) := P8.out.cell 1
        have vp2 : w8.drew.cell? ⟨b7, 2, none⟩ = some (.int .i64 fx) := P8.out.cell 2
        have vi2 : w8.drew.cell? ⟨h, 2, none⟩ = some (.slice qv (P ++ mkP f s pre).length dv) := I8.out.cell 2
        obtain ⟨w9, hw9⟩ : ∃ w9, w8.drew.alloc (.cells #[.int .i64 sx, .int .i64 fo, .int .i64 fx] 109) = w9 := ⟨_, rfl⟩
        have B9 := Lib.hid (show Below w8.drew.heap.size w8.drew w9 from hw9 ▸ alloc_below _ _)
        have N9 := Lib.hid (show Lies w9 w8.drew.heap.size 109 #[.int .i64 sx, .int .i64 fo, .int .i64 fx] from hw9 ▸ Lies.new _ _ _)
        have X9 := Lib.hid (show Lies w9 w.heap.size _ _ from X8.out.below (B := w8.heap.size) (show Below w8.heap.size w8 w9 from ((Below.refl _ w8).drew).trans B9.out) X8.out.lt)
        have I9 := Lib.hid (show Lies w9 h _ _ from I8.out.below (B := w8.heap.size) (show Below w8.heap.size w8 w9 from ((Below.refl _ w8).drew).trans B9.out) I8.out.lt)
        have P9 := Lib.hid (show Lies w9 b7 _ _ from P8.out.below (B := w8.heap.size) (show Below w8.heap.size w8 w9 from ((Below.refl _ w8).drew).trans B9.out) P8.out.lt)
        have R9 := Lib.hid (own_turn R8.out (Turn.of_below (S := fun _ => False) (show Below w8.heap.size w8 w9 from ((Below.refl _ w8).drew).trans B9.out)) (fun _ _ hh => hh))
        have PL := rec_len RK.out
        obtain ⟨v3, w10, hrun, hr10, hg10, hv10⟩ := app_part B (.slice qv (P ++ mkP f s pre).length dv) (P ++ mkP f s pre) ⟨sx, fo, fx⟩ w8.drew.heap.size w9 R9.out (by have := HW.out.low; have := I9.out.lt; omega) (by rw [List.length_append, HPL.out]; have := HN.out; omega) N9.out
        obtain ⟨q3, d3, rfl⟩ := own_slice hr10
        obtain ⟨n3, hn3⟩ : ∃ n3, (P ++ mkP f s pre ++ [(⟨sx, fo, fx⟩ : Pt)]).length = n3 := ⟨_, rfl⟩
        obtain ⟨nv, hnv⟩ : ∃ nv, (P ++ mkP f s pre).length = nv := ⟨_, rfl⟩
        have O9 := Lib.hid (own_blk_ne R9.out X9.out (by decide))
        have OI9 := Lib.hid (own_blk_ne R9.out I9.out (by decide))
        have OP9 := Lib.hid (show (Value.slice qv (P ++ mkP f s pre).length dv).ownBlock ≠ some b7 from fun e => by
          have h1 := (own_lt HR.out e).2
          have h2 := LQ.out
          omega)
        rw [hnv] at hrun hg10 hv10 vi2 I8 I9 R8 R9 HR HI HV O9 OI9 OP9
        rw [hn3] at hrun hv10 hr10
        have X10 := Lib.hid (X9.out.grown hg10 (fun e => O9.out e.symm))
        have I10 := Lib.hid (I9.out.grown hg10 (fun e => OI9.out e.symm))
        have P10 := Lib.hid (P9.out.grown hg10 (fun e => OP9.out e.symm))
        have r2 : w10.cell? ⟨w.heap.size, 0, none⟩ = some (.pointer (some ⟨h, 0, none⟩)) := X10.out.cell 0
        have rp0 : w10.cell? ⟨b7, 0, none⟩ = some (.int .i64 sx) := P10.out.cell 0
        have rp1 : w10.cell? ⟨b7, 1, none⟩ = some (.int .i64 fo) := P10.out.cell 1
        have rp2 : w10.cell? ⟨b7, 2, none⟩ = some (.int .i64 fx) := P10.out.cell 2
        have ri2 : w10.cell? ⟨h, 2, none⟩ = some (.slice qv nv dv) := I10.out.cell 2
        have ri3 : w10.cell? ⟨h, 3, none⟩ = some (.int .i64 (endOf kn pre)) := I10.out.cell 3
        have rg2 : w10.frozen? ⟨h, 2, none⟩ = false := I10.out.frozen 2
        have rg3 : w10.frozen? ⟨h, 3, none⟩ = false := I10.out.frozen 3
        have FX := Lib.hid (show h ≠ w.heap.size ∧ h ≠ b7 from ⟨fun e => NB.out.2.2.2.2.2.1 e.symm, NB.out.2.2.2.2.1⟩)
        have hS := And.intro v2 (And.intro vp0 (And.intro vp1 vp2))
        have t2 := (B9.out.cell (World.block_lt_of_cell? _ _ v2)).trans v2
        have tp0 := (B9.out.cell (World.block_lt_of_cell? _ _ vp0)).trans vp0
        have tp1 := (B9.out.cell (World.block_lt_of_cell? _ _ vp1)).trans vp1
        have tp2 := (B9.out.cell (World.block_lt_of_cell? _ _ vp2)).trans vp2
        have ti2 : w9.cell? ⟨h, 2, none⟩ = some (.slice qv nv dv) := I9.out.cell 2
        have HG10 := Lib.hid hg10
        have HR10 := Lib.hid hr10
        have HV10 := Lib.hid hv10
        have HN3 := Lib.hid hn3
        have HNV := Lib.hid hnv
        clear hg10 hr10 hv10 hn3 hnv PL
        refine wpIn_mono (Q := fun e a' w' => e = .normal ∧ a' = { tmps := #[.pointer (some ⟨h, 0, none⟩), .int .i64 m, .pointer (some ⟨w.heap.size, 0, none⟩), .pointer (some ⟨w.heap.size + 1, 0, none⟩), .pointer (some ⟨b4, 0, none⟩), .int .i64 sx, .int .i64 ex, .pointer (some ⟨b7, 0, none⟩), .int .i64 m, .pointer (some ⟨h, 0, none⟩), .pointer (some ⟨h, 0, none⟩), .pointer (some ⟨h, 3, none⟩), .int .i64 kn, .bool false, .pointer (some ⟨h, 0, none⟩), .pointer (some ⟨h, 0, none⟩), .pointer (some ⟨h, 0, none⟩), .pointer (some ⟨h, 3, none⟩), .int .i64 kn, .int .i64 s, .pointer (some ⟨h, 0, none⟩), .pointer (some ⟨h, 0, none⟩), .pointer (some ⟨h, 0, none⟩), .pointer (some ⟨h0, 0, none⟩), .pointer (some ⟨h, 0, none⟩), .pointer (some ⟨h, 0, none⟩), .pointer (some ⟨h, 3, none⟩), .int .i64 kn, .func (.func 83) #[] #[.pointer (some ⟨bb + 1, 0, none⟩), .pointer (some ⟨bb + 1 + 1, 0, none⟩), .pointer (some ⟨bb, 0, none⟩)], .int .i64 sx, .int .i64 ex, .int .i64 sx, .int .i64 fo, .pointer (some ⟨h, 0, none⟩), .pointer (some ⟨h, 0, none⟩), .pointer (some ⟨h, 0, none⟩), .pointer (some ⟨h0, 0, none⟩), .pointer (some ⟨h, 0, none⟩), .pointer (some ⟨h, 0, none⟩), .pointer (some ⟨h, 1, none⟩), .int .i64 li, .int .i64 sx, .int .i64 fx, .agg #[.int .i64 sx, .int .i64 fo, .int .i64 fx], .int .i64 fo, .pointer (some ⟨b7, 2, none⟩), .int .i64 fx, .int .i64 ex, .int .i64 sx, .int .i64 (ex - sx), .int .i64 fo2, .pointer (some ⟨h, 0, none⟩), .pointer (some ⟨h, 0, none⟩), .pointer (some ⟨h, 0, none⟩), .pointer (some ⟨h, 0, none⟩), .pointer (some ⟨h, 2, none⟩), .slice qv nv dv, .agg #[.int .i64 sx, .int .i64 fo, .int .i64 fx], .slice (some ⟨w8.drew.heap.size, 0, none⟩) 1 1, .slice q3 n3 d3, .int .i64 ex, .pointer (some ⟨h, 0, none⟩), .pointer (some ⟨h, 2, none⟩), .pointer (some ⟨h, 0, none⟩), .pointer (some ⟨h, 3, none⟩), undef, undef, undef], defers := [] } ∧ w' = (w10.setCell ⟨h, 2, none⟩ (.slice q3 n3 d3)).setCell ⟨h, 3, none⟩ (.int .i64 ex)) ?reg8 ?imp8
        case reg8 =>
          clear hS
          refine round_T 16 (fun w' => w'.cell? ⟨w.heap.size, 0, none⟩ = some (.pointer (some ⟨h, 0, none⟩)) ∧ w'.cell? ⟨b7, 0, none⟩ = some (.int .i64 sx) ∧ w'.cell? ⟨b7, 1, none⟩ = some (.int .i64 fo) ∧ w'.cell? ⟨b7, 2, none⟩ = some (.int .i64 fx)) (by kernel_rfl) (by kernel_rfl) ⟨v2, vp0, vp1, vp2⟩ (fun hS => ?_)
          refine takeL (i := 0) (v := ?_) rfl (by kernel_rfl) (by kernel_rfl) (by kernel_rfl) (by kernel_rfl) (by kernel_rfl) (fun _ _ _ h => h) (Or.inl ⟨by rfl, ?_⟩) (by assumption) ?_
          rotate_left
          · (intro w' hSw; (try dsimp only at hSw); go_simp; with_reducible rfl)
          try simp only [Act.put, List.setIfInBounds_toArray, List.set_cons_zero, List.set_cons_succ]
          refine takeL (i := 1) (v := ?_) rfl (by kernel_rfl) (by kernel_rfl) (by kernel_rfl) (by kernel_rfl) (by kernel_rfl) (fun _ _ _ h => h) (Or.inl ⟨by rfl, ?_⟩) (by assumption) ?_
          rotate_left
          · (intro w' hSw; (try dsimp only at hSw); go_simp; with_reducible rfl)
          try simp only [Act.put, List.setIfInBounds_toArray, List.set_cons_zero, List.set_cons_succ]
          refine takeL (i := 2) (v := ?_) rfl (by kernel_rfl) (by kernel_rfl) (by kernel_rfl) (by kernel_rfl) (by kernel_rfl) (fun _ _ _ h => h) (Or.inl ⟨by rfl, ?_⟩) (by assumption) ?_
          rotate_left
          · (intro w' hSw; (try dsimp only at hSw); go_simp; with_reducible rfl)
          try simp only [Act.put, List.setIfInBounds_toArray, List.set_cons_zero, List.set_cons_succ]
          refine takeL (i := 3) (v := ?_) rfl (by kernel_rfl) (by kernel_rfl) (by kernel_rfl) (by kernel_rfl) (by kernel_rfl) (fun _ _ _ h => h) (Or.inl ⟨by rfl, ?_⟩) (by assumption) ?_
          rotate_left
          · (intro w' hSw; (try dsimp only at hSw); go_simp; with_reducible rfl)
          try simp only [Act.put, List.setIfInBounds_toArray, List.set_cons_zero, List.set_cons_succ]
          refine takeL (i := 4) (v := ?_) rfl (by kernel_rfl) (by kernel_rfl) (by kernel_rfl) (by kernel_rfl) (by kernel_rfl) (fun _ _ _ h => h) (Or.inl ⟨by rfl, ?_⟩) (by assumption) ?_
          rotate_left
          · (intro w' hSw; (try dsimp only at hSw); go_simp; with_reducible rfl)
          try simp only [Act.put, List.setIfInBounds_toArray, List.set_cons_zero, List.set_cons_succ]
          refine takeL (i := 6) (v := ?_) rfl (by kernel_rfl) (by kernel_rfl) (by kernel_rfl) (by kernel_rfl) (by kernel_rfl) (fun _ _ _ h => h) (Or.inl ⟨by rfl, ?_⟩) (by assumption) ?_
          rotate_left
          · (intro w' hSw; (try dsimp only at hSw); go_simp; with_reducible rfl)
          try simp only [Act.put, List.setIfInBounds_toArray, List.set_cons_zero, List.set_cons_succ]
          refine takeL (i := 9) (v := ?_) rfl (by kernel_rfl) (by kernel_rfl) (by kernel_rfl) (by kernel_rfl) (by kernel_rfl) (fun _ _ _ h => h) (Or.inl ⟨by rfl, ?_⟩) (by assumption) ?_
          rotate_left
          · (intro w' hSw; (try dsimp only at hSw); go_simp; with_reducible rfl)
          try simp only [Act.put, List.setIfInBounds_toArray, List.set_cons_zero, List.set_cons_succ]
          refine twoL (i := 5) (j := 7) (by kernel_rfl) rfl rfl (fun K hK => ?_) (fun K hK => ?_)
          · go_simp
            refine hK.out _ _ (fun _ => hS) ?_
            clear hK K
            try simp only [Act.put, List.setIfInBounds_toArray, List.set_cons_zero, List.set_cons_succ]
            refine oneL (i := 7) (by kernel_rfl) rfl (fun K hK => ?_)
            go_simp
            try rw [hw9]
            clear hS
            refine hK.out _ _ (fun _ => ⟨t2, tp0, tp1, tp2⟩) ?_
            clear hK K
            try simp only [Act.put, List.setIfInBounds_toArray, List.set_cons_zero, List.set_cons_succ]
            have hS := And.intro t2 (And.intro tp0 (And.intro tp1 tp2))
            refine oneL (i := 8) (by kernel_rfl) rfl (fun K hK => ?_)
            refine op_append 100 _ _ rfl rfl rfl rfl hrun ?_
            try simp only [Act.put, List.setIfInBounds_toArray, List.set_cons_zero, List.set_cons_succ]
            refine hK.out _ _ (fun _ => ⟨r2, rp0, rp1, rp2⟩) ?_
            clear hK K
            try simp only [Act.put, List.setIfInBounds_toArray, List.set_cons_zero, List.set_cons_succ]
            clear hS
            have hS := And.intro r2 (And.intro rp0 (And.intro rp1 rp2))
            refine takeL (i := 10) (v := ?_) rfl (by kernel_rfl) (by kernel_rfl) (by kernel_rfl) (by kernel_rfl) (by kernel_rfl) (fun _ _ _ h => h) (Or.inl ⟨by rfl, ?_⟩) (by assumption) ?_
            rotate_left
            · (intro w' hSw; (try dsimp only at hSw); go_simp; with_reducible rfl)
            try simp only [Act.put, List.setIfInBounds_toArray, List.set_cons_zero, List.set_cons_succ]
            refine takeL (i := 11) (v := ?_) rfl (by kernel_rfl) (by kernel_rfl) (by kernel_rfl) (by kernel_rfl) (by kernel_rfl) (fun _ _ _ h => h) (Or.inl ⟨by rfl, ?_⟩) (by assumption) ?_
            rotate_left
            · (intro w' hSw; (try dsimp only at hSw); go_simp; with_reducible rfl)
            try simp only [Act.put, List.setIfInBounds_toArray, List.set_cons_zero, List.set_cons_succ]
            refine oneL (i := 12) (by kernel_rfl) rfl (fun K hK => ?_)
            go_simp
            have s2 := (World.cell?_setCell_far w10 ⟨h, 2, none⟩ ⟨w.heap.size, 0, none⟩ (.slice q3 n3 d3) FX.out.1).trans r2
            have sp0 := (World.cell?_setCell_far w10 ⟨h, 2, none⟩ ⟨b7, 0, none⟩ (.slice q3 n3 d3) FX.out.2).trans rp0
            have sp1 := (World.cell?_setCell_far w10 ⟨h, 2, none⟩ ⟨b7, 1, none⟩ (.slice q3 n3 d3) FX.out.2).trans rp1
            have sp2 := (World.cell?_setCell_far w10 ⟨h, 2, none⟩ ⟨b7, 2, none⟩ (.slice q3 n3 d3) FX.out.2).trans rp2
            refine hK.out _ _ (fun _ => ⟨s2, sp0, sp1, sp2⟩) ?_
            clear hK K
            try simp only [Act.put, List.setIfInBounds_toArray, List.set_cons_zero, List.set_cons_succ]
            clear hS
            have hS := And.intro s2 (And.intro sp0 (And.intro sp1 sp2))
            refine takeL (i := 13) (v := ?_) rfl (by kernel_rfl) (by kernel_rfl) (by kernel_rfl) (by kernel_rfl) (by kernel_rfl) (fun _ _ _ h => h) (Or.inl ⟨by rfl, ?_⟩) (by assumption) ?_
            rotate_left
            · (intro w' hSw; (try dsimp only at hSw); go_simp; with_reducible rfl)
            try simp only [Act.put, List.setIfInBounds_toArray, List.set_cons_zero, List.set_cons_succ]
            refine takeL (i := 14) (v := ?_) rfl (by kernel_rfl) (by kernel_rfl) (by kernel_rfl) (by kernel_rfl) (by kernel_rfl) (fun _ _ _ h => h) (Or.inl ⟨by rfl, ?_⟩) (by assumption) ?_
            rotate_left
            · (intro w' hSw; (try dsimp only at hSw); go_simp; with_reducible rfl)
            try simp only [Act.put, List.setIfInBounds_toArray, List.set_cons_zero, List.set_cons_succ]
            refine oneL (i := 15) (by kernel_rfl) rfl (fun K hK => ?_)
            go_simp
            refine hK.out _ _ (fun _ => ⟨(World.cell?_setCell_far _ ⟨h, 3, none⟩ _ _ FX.out.1).trans s2, (World.cell?_setCell_far _ ⟨h, 3, none⟩ _ _ FX.out.2).trans sp0, (World.cell?_setCell_far _ ⟨h, 3, none⟩ _ _ FX.out.2).trans sp1, (World.cell?_setCell_far _ ⟨h, 3, none⟩ _ _ FX.out.2).trans sp2⟩) ?_
            clear hK K
            refine doneO (by kernel_rfl) ?_ _
            exact ⟨rfl, rfl, rfl⟩
          · go_simp
            try rw [hw9]
            clear hS
            refine hK.out _ _ (fun _ => ⟨t2, tp0, tp1, tp2⟩) ?_
            clear hK K
            try simp only [Act.put, List.setIfInBounds_toArray, List.set_cons_zero, List.set_cons_succ]
            have hS := And.intro t2 (And.intro tp0 (And.intro tp1 tp2))
            refine oneL (i := 5) (by kernel_rfl) rfl (fun K hK => ?_)
            go_simp
            refine hK.out _ _ (fun _ => hS) ?_
            clear hK K
            try simp only [Act.put, List.setIfInBounds_toArray, List.set_cons_zero, List.set_cons_succ]
            refine oneL (i := 8) (by kernel_rfl) rfl (fun K hK => ?_)
            refine op_append 100 _ _ rfl rfl rfl rfl hrun ?_
            try simp only [Act.put, List.setIfInBounds_toArray, List.set_cons_zero, List.set_cons_succ]
            refine hK.out _ _ (fun _ => ⟨r2, rp0, rp1, rp2⟩) ?_
            clear hK K
            try simp only [Act.put, List.setIfInBounds_toArray, List.set_cons_zero, List.set_cons_succ]
            clear hS
            have hS := And.intro r2 (And.intro rp0 (And.intro rp1 rp2))
            refine takeL (i := 10) (v := ?_) rfl (by kernel_rfl) (by kernel_rfl) (by kernel_rfl) (by kernel_rfl) (by kernel_rfl) (fun _ _ _ h => h) (Or.inl ⟨by rfl, ?_⟩) (by assumption) ?_
            rotate_left
            · (intro w' hSw; (try dsimp only at hSw); go_simp; with_reducible rfl)
            try simp only [Act.put, List.setIfInBounds_toArray, List.set_cons_zero, List.set_cons_succ]
            refine takeL (i := 11) (v := ?_) rfl (by kernel_rfl) (by kernel_rfl) (by kernel_rfl) (by kernel_rfl) (by kernel_rfl) (fun _ _ _ h => h) (Or.inl ⟨by rfl, ?_⟩) (by assumption) ?_
            rotate_left
            · (intro w' hSw; (try dsimp only at hSw); go_simp; with_reducible rfl)
            try simp only [Act.put, List.setIfInBounds_toArray, List.set_cons_zero, List.set_cons_succ]
            refine oneL (i := 12) (by kernel_rfl) rfl (fun K hK => ?_)
            go_simp
            have s2 := (World.cell?_setCell_far w10 ⟨h, 2, none⟩ ⟨w.heap.size, 0, none⟩ (.slice q3 n3 d3) FX.out.1).trans r2
            have sp0 := (World.cell?_setCell_far w10 ⟨h, 2, none⟩ ⟨b7, 0, none⟩ (.slice q3 n3 d3) FX.out.2).trans rp0
            have sp1 := (World.cell?_setCell_far w10 ⟨h, 2, none⟩ ⟨b7, 1, none⟩ (.slice q3 n3 d3) FX.out.2).trans rp1
            have sp2 := (World.cell?_setCell_far w10 ⟨h, 2, none⟩ ⟨b7, 2, none⟩ (.slice q3 n3 d3) FX.out.2).trans rp2
            refine hK.out _ _ (fun _ => ⟨s2, sp0, sp1, sp2⟩) ?_
            clear hK K
            try simp only [Act.put, List.setIfInBounds_toArray, List.set_cons_zero, List.set_cons_succ]
            clear hS
            have hS := And.intro s2 (And.intro sp0 (And.intro sp1 sp2))
            refine takeL (i := 13) (v := ?_) rfl (by kernel_rfl) (by kernel_rfl) (by kernel_rfl) (by kernel_rfl) (by kernel_rfl) (fun _ _ _ h => h) (Or.inl ⟨by rfl, ?_⟩) (by assumption) ?_
            rotate_left
            · (intro w' hSw; (try dsimp only at hSw); go_simp; with_reducible rfl)
            try simp only [Act.put, List.setIfInBounds_toArray, List.set_cons_zero, List.set_cons_succ]
            refine takeL (i := 14) (v := ?_) rfl (by kernel_rfl) (by kernel_rfl) (by kernel_rfl) (by kernel_rfl) (by kernel_rfl) (fun _ _ _ h => h) (Or.inl ⟨by rfl, ?_⟩) (by assumption) ?_
            rotate_left
            · (intro w' hSw; (try dsimp only at hSw); go_simp; with_reducible rfl)
            try simp only [Act.put, List.setIfInBounds_toArray, List.set_cons_zero, List.set_cons_succ]
            refine oneL (i := 15) (by kernel_rfl) rfl (fun K hK => ?_)
            go_simp
            refine hK.out _ _ (fun _ => ⟨(World.cell?_setCell_far _ ⟨h, 3, none⟩ _ _ FX.out.1).trans s2, (World.cell?_setCell_far _ ⟨h, 3, none⟩ _ _ FX.out.2).trans sp0, (World.cell?_setCell_far _ ⟨h, 3, none⟩ _ _ FX.out.2).trans sp1, (World.cell?_setCell_far _ ⟨h, 3, none⟩ _ _ FX.out.2).trans sp2⟩) ?_
            clear hK K
            refine doneO (by kernel_rfl) ?_ _
            exact ⟨rfl, rfl, rfl⟩
        case imp8 =>
          rintro e a' wf ⟨rfl, rfl, hwf⟩
          have hh : h ≠ b4 := NB.out.2.2.1
          have TH : Turn (fun k => k = h) w10 wf := by
            rw [hwf]
            exact ((Turn.refl (fun k => k = h) w10).setCell (p := ⟨h, 2, none⟩) (.inl rfl) _).setCell (p := ⟨h, 3, none⟩) (.inl rfl) _
          have T9 : Turn (fun _ => False) w8 w9 := (((Turn.refl (fun _ => False) w8).drew)).trans (Turn.of_below (S := fun _ => False) B9.out) (fun _ hf => hf.elim)
          have T10 : Turn (fun k => (Value.slice qv nv dv).ownBlock = some k) w9 w10 := (Turn.refl _ w9).grown HG10.out (fun k e => .inl e)
          have S9 := T8.out.trans T9 (fun _ hf => hf.elim)
          have TW : Turn (fun k => k = h ∨ (Value.slice qv nv dv).ownBlock = some k ∨ k = b4) W wf := by
            refine ((S9.mono (S' := fun k => k = h ∨ (Value.slice qv nv dv).ownBlock = some k ∨ k = b4) (fun _ _ e => .inr (.inr e))).trans T10 (fun k e => .inl (.inr (.inl e)))).trans TH (fun k e => .inl (.inl e))
          have nM : ¬ (w.heap.size + 1 = h ∨ (Value.slice qv nv dv).ownBlock = some (w.heap.size + 1) ∨ w.heap.size + 1 = b4) := fun e => by
            rcases e with e | e | e
            · have := ZZ.out.2.2.2.1
              omega
            · exact own_blk_ne HR.out BM.out (by decide) e
            · exact NB.out.2.1 e
          have y3 : wf.cell? ⟨w.heap.size + 1, 0, none⟩ = some (.int .i64 m) := (BM.out.turn TW nM).cell 0
          have F4 : Lies wf b4 3 #[.int .i64 fo2] := ((S8.out.turn T9 (fun hf => hf)).turn T10 (fun e => own_blk_ne R9.out (S8.out.turn T9 (fun hf => hf)) (by decide) e)).turn TH (fun e => hh e.symm)
          have FH : Lies wf h 102 #[.pointer (some ⟨h0, 0, none⟩), .int .i64 li, .slice q3 n3 d3, .int .i64 ex] := by
            rw [hwf]
            have := (I10.out.set_ 2 (.slice q3 n3 d3)).set_ 3 (.int .i64 ex)
            simpa using this
          have FR := own_turn HR10.out TH (fun k hk e => own_blk_ne HR10.out I10.out (by decide) (e ▸ hk))
          have KO : KeepsOthers W wf := keeps_of_turn TW (fun k hk _ => by
            rcases hk with rfl | hk | rfl
            · exact ⟨_, _, HI.out⟩
            · rcases HR.out.2 with ⟨e, _⟩ | ⟨g, cap, cur, e, _, hcur, _⟩
              · rw [e] at hk
                cases hk
              · rw [e] at hk
                injection hk with hk
                simp only at hk
                subst hk
                exact ⟨_, _, hcur⟩
            · exact ⟨_, _, H4.out⟩)
          have KP : Kept (fun k => k = h ∨ v.ownBlock = some k ∨ k = b4) w5.heap.size W wf := TW.mono (fun k _ hk => by
            rcases hk with hk | hk | hk
            · exact .inl (.inl hk)
            · rcases HV.out k hk with h1 | h1
              · exact .inl (.inr (.inl h1))
              · exact .inr h1
            · exact .inl (.inr (.inr hk)))
          have UN : Upon w5 B h h0 v P kn li b4 f s (pre ++ [⟨(sx, ex), x0, x1, x2⟩]) wf := by
            refine ⟨.slice q3 n3 d3, by rw [HES.out]; exact FH, ?_, by rw [HFS.out]; exact F4, HT.out.trans KP (fun k hk => hk), fun k hk => ?_⟩
            · rw [HPS.out, ← List.append_assoc, HN3.out]
              exact FR
            · rcases HV10.out with e | e
              · rw [e] at hk
                exact HV.out k hk
              · rw [e] at hk
                cases hk
                have h1 := HT.out.size
                have h2 := S9.size
                exact .inr (by omega)
          have KOn := Lib.hid (KO.from w5.heap.size)
          have KPn := Lib.hid KP
          have UNn := Lib.hid UN
          have HEn := Lib.hid HES.out
          clear KO KP UN FR FH F4 TW T10 T9 TH S9 hwf nM hh
          by_cases hme : m ≤ ex
          · gi_wp2
            exact ⟨KOn.out, rfl, UNn.out, by rw [HEn.out]; exact hme⟩
          · have hme' : ex < m := by omega
            gi_wp2
            exact ⟨KOn.out, KPn.out, UNn.out⟩
end Ex
end Go.Proofs.Ytehiclmkdpcplaa
