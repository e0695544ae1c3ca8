/- Walks over package door: New, Put. No condition but those written. -/
import Derived.Test.YtfdakkghikimcaaDrMp
import Derived.WalkSpells
namespace Go.Proofs.Ytfdakkghikimcaa
open Go.RowKit Go.Maps

namespace Dr
open Se
theorem pnew_any (w : World) : Calls Try.prog 7 #[] w fun e w' => ∃ h F, e = .returned (.pointer (some ⟨h, 0, none⟩)) ∧ PDoor w' w.heap.size h F [] ∧ Below w.heap.size w w' := by
  have X := Lib.hid (Lies.new w 54 #[.map none])
  go_enter Try.func7, Try.ntmps7
  go_wp2
  go_ret
  exact ⟨w.heap.size, fun k => k = w.heap.size, rfl, ⟨none, X.out, Nat.le_refl _, fun k => by simp, .inl ⟨rfl, rfl⟩⟩, alloc_below w _⟩
theorem pput_nil (r : Rd) (w : World) : Calls Try.prog 8 #[.pointer none, mval r] w fun e w' => e = .returned (.tuple #[.bool false, .int .i64 1]) ∧ Below w.heap.size w w' := by
  unfold mval
  generalize opB r = o
  obtain ⟨m, s, _⟩ := r
  simp only
  go_enter Try.func8, Try.ntmps8
  go_wp2
  go_ret2
  exact ⟨rfl, alloc_below w _⟩
theorem pput_no (h : Nat) (r : Rd) (w : World) (hr : rightM r = false) : Calls Try.prog 8 #[.pointer (some ⟨h, 0, none⟩), mval r] w fun e w' => e = .returned (.tuple #[.bool false, .int .i64 1]) ∧ Below w.heap.size w w' := by
  have M := Lib.hid (fun W => maybe_any r W)
  have HR := Lib.hid hr
  clear hr
  rw [HR.out] at M
  unfold mval at *
  generalize opB r = o at *
  obtain ⟨m, s, _⟩ := r
  simp only at M ⊢
  go_enter Try.func8, Try.ntmps8
  go_wp2_with (go_at_call 20; ((with_reducible refine (M.out _).mono ?_); rintro e w1 ⟨rfl, hb⟩))
  go_ret2
  exact ⟨rfl, (alloc_below w _).trans (hb.mono (by simp))⟩
/-- What a place holds. -/
theorem look {w : World} {b n : Nat} {D : DataW Unit} (hown : w.ownsMap Try.prog 56 (plainElem Try.prog 4) b n D) {m s : Int} (hm : In64 m) (hs : In64 s) :
    ∃ v, D.atKey (pk m s) (.lit (.bool false)) = .lit (.bool v) ∧ ∀ W : World, W.heap[b]? = w.heap[b]? →
      (Instr.lookup 52 (.map (some b)) (.agg #[.int .i64 m, .int .i64 s]) true).run Try.prog W = .ok (.tuple #[.bool v, .bool (Maps.has D (pk m s))]) W := by
  have key : ∀ W : World, W.heap[b]? = w.heap[b]? → ∃ v, D.atKey (pk m s) (.lit (.bool false)) = .lit (.bool v) ∧
      (Instr.lookup 52 (.map (some b)) (.agg #[.int .i64 m, .int .i64 s]) true).run Try.prog W = .ok (.tuple #[.bool v, .bool (Maps.has D (pk m s))]) W := by
    intro W hW
    obtain ⟨v, ps, hrun, hv⟩ := (own_like hown hW).look_ok law Try.underlying52 (zeroP W) (zd := .lit (.bool false)) (plainElem_bool Try.underlying4 false) (key_of hm hs)
    obtain ⟨c, rfl, hz⟩ := bool_inv hv
    exact ⟨c, congrArg Prod.fst hz, hrun⟩
  obtain ⟨v, hv, _⟩ := key w rfl
  refine ⟨v, hv, fun W hW => ?_⟩
  obtain ⟨v', hv', hr⟩ := key W hW
  rw [hv] at hv'
  injection hv' with hv'
  injection hv' with hv'
  rw [hv']
  exact hr
set_option maxRecDepth 100000 in
set_option maxHeartbeats 2000000 in
/-- What is there stays. -/
theorem pput_there (h b : Nat) (r : Rd) (w : World) (hr : rightM r = true) (hl : Lies w h 54 #[.map (some b)]) (hb : b < w.heap.size) (v : Bool) (hv : (v || !opB r) = true)
    (hk : ∀ W : World, W.heap[b]? = w.heap[b]? → (Instr.lookup 52 (.map (some b)) (.agg #[.int .i64 r.min, .int .i64 r.seq]) true).run Try.prog W = .ok (.tuple #[.bool v, .bool true]) W) :
    Calls Try.prog 8 #[.pointer (some ⟨h, 0, none⟩), mval r] w fun e w' => e = .returned (.tuple #[.bool false, .int .i64 0]) ∧ Below w.heap.size w w' := by
  have M := Lib.hid (fun W => maybe_any r W)
  have HR := Lib.hid hr
  clear hr
  rw [HR.out] at M
  have HK := Lib.hid hk
  clear hk
  unfold mval at *
  generalize opB r = o at *
  obtain ⟨m, s, _⟩ := r
  simp only at M HK ⊢
  have B0 := Lib.hid (alloc_below w (.cells #[.int .i64 m, .int .i64 s, .bool o] 31))
  have L0 := Lib.hid (hl.alloc (.cells #[.int .i64 m, .int .i64 s, .bool o] 31))
  have X0 := Lib.hid (Lies.new w 31 #[.int .i64 m, .int .i64 s, .bool o])
  obtain ⟨w1, hw1⟩ : ∃ w1, w.alloc (.cells #[.int .i64 m, .int .i64 s, .bool o] 31) = w1 := ⟨_, rfl⟩
  have hs1 : w1.heap.size = w.heap.size + 1 := by rw [← hw1]; simp
  have HS1 := Lib.hid hs1
  rw [hw1] at B0 L0 X0
  have HL := Lib.hid hl.lt
  clear hs1 hl
  go_enter Try.func8, Try.ntmps8
  have d0 : w1.cell? ⟨w.heap.size, 0, none⟩ = some (.int .i64 m) := X0.out.cell 0
  have d1 : w1.cell? ⟨w.heap.size, 1, none⟩ = some (.int .i64 s) := X0.out.cell 1
  have d2 : w1.cell? ⟨w.heap.size, 2, none⟩ = some (.bool o) := X0.out.cell 2
  go_wp2_with fail
  clear hw1 d0 d1 d2
  refine (M.out _).mono ?_
  rintro e w2 ⟨rfl, hb2⟩
  have B2 := Lib.hid (B0.out.trans (hb2.mono (by have := HS1.out; omega)))
  have L2 := Lib.hid (L0.out.below hb2 (L0.out.lt))
  have X2 := Lib.hid (X0.out.below hb2 (by have := HS1.out; omega))
  clear hb2 L0 X0
  have e0 : w2.cell? ⟨w.heap.size, 0, none⟩ = some (.int .i64 m) := X2.out.cell 0
  have e1 : w2.cell? ⟨w.heap.size, 1, none⟩ = some (.int .i64 s) := X2.out.cell 1
  have e2 : w2.cell? ⟨w.heap.size, 2, none⟩ = some (.bool o) := X2.out.cell 2
  have B3 := Lib.hid (B2.out.alloc (by have := B2.out.size; omega) (.cells #[.int .i64 m, .int .i64 s] 56))
  have L3 := Lib.hid (L2.out.alloc (.cells #[.int .i64 m, .int .i64 s] 56))
  have X3 := Lib.hid (X2.out.alloc (.cells #[.int .i64 m, .int .i64 s] 56))
  have Y3 := Lib.hid (Lies.new w2 56 #[.int .i64 m, .int .i64 s])
  obtain ⟨w3, hw3⟩ : ∃ w3, w2.alloc (.cells #[.int .i64 m, .int .i64 s] 56) = w3 := ⟨_, rfl⟩
  rw [hw3] at B3 L3 X3 Y3
  have hs3 : w3.heap.size = w2.heap.size + 1 := by rw [← hw3]; simp
  have HS3 := Lib.hid hs3
  clear hs3
  go_wp2_with fail
  clear hw3 e0 e1 e2
  have hbk : w3.heap[b]? = w.heap[b]? := B3.out.block b hb
  have K := fun d => HK.out (w3.drewN d) hbk
  clear hbk
  have e0 : w3.cell? ⟨w.heap.size, 0, none⟩ = some (.int .i64 m) := X3.out.cell 0
  have e1 : w3.cell? ⟨w.heap.size, 1, none⟩ = some (.int .i64 s) := X3.out.cell 1
  have e2 : w3.cell? ⟨w.heap.size, 2, none⟩ = some (.bool o) := X3.out.cell 2
  have y0 : w3.cell? ⟨w2.heap.size, 0, none⟩ = some (.int .i64 m) := Y3.out.cell 0
  have y1 : w3.cell? ⟨w2.heap.size, 1, none⟩ = some (.int .i64 s) := Y3.out.cell 1
  have l0 : w3.cell? ⟨h, 0, none⟩ = some (.map (some b)) := L3.out.cell 0
  go_quiet (fail)
  cases v
  · cases o
    · go_wp2_with fail
      go_ret2
      exact ⟨rfl, below_drewN B3.out _⟩
    · simp at hv
  · go_wp2_with fail
    go_ret2
    exact ⟨rfl, below_drewN B3.out _⟩
set_option maxRecDepth 100000 in
set_option maxHeartbeats 2000000 in
/-- What changes is put. -/
theorem pput_set (h b n : Nat) (D : DataW Unit) (r : Rd) (w : World) (hr : rightM r = true) (hl : Lies w h 54 #[.map (some b)]) (hb : b < w.heap.size) (hn : n < maxLen) (v t : Bool) (hv : (t && (v || !opB r)) = false)
    (hown : w.ownsMap Try.prog 56 (plainElem Try.prog 4) b n D)
    (hk : ∀ W : World, W.heap[b]? = w.heap[b]? → (Instr.lookup 52 (.map (some b)) (.agg #[.int .i64 r.min, .int .i64 r.seq]) true).run Try.prog W = .ok (.tuple #[.bool v, .bool t]) W) :
    Calls Try.prog 8 #[.pointer (some ⟨h, 0, none⟩), mval r] w fun e w' => e = .returned (.tuple #[.bool true, .int .i64 0]) ∧
      w'.ownsMap Try.prog 56 (plainElem Try.prog 4) b (n + 1) (D.put (pk r.min r.seq) (.lit (.bool (opB r)))) ∧ Turn (fun k => k = b) w w' := by
  have HKEY := Lib.hid (key_of (right_in hr).1 (right_in hr).2)
  have HOWN := Lib.hid hown
  clear hown
  have M := Lib.hid (fun W => maybe_any r W)
  have HR := Lib.hid hr
  clear hr
  rw [HR.out] at M
  have HK := Lib.hid hk
  clear hk
  unfold mval pval at *
  generalize opB r = o at *
  obtain ⟨m, s, _⟩ := r
  simp only at M HK HKEY ⊢
  have B0 := Lib.hid (alloc_below w (.cells #[.int .i64 m, .int .i64 s, .bool o] 31))
  have L0 := Lib.hid (hl.alloc (.cells #[.int .i64 m, .int .i64 s, .bool o] 31))
  have X0 := Lib.hid (Lies.new w 31 #[.int .i64 m, .int .i64 s, .bool o])
  obtain ⟨w1, hw1⟩ : ∃ w1, w.alloc (.cells #[.int .i64 m, .int .i64 s, .bool o] 31) = w1 := ⟨_, rfl⟩
  have hs1 : w1.heap.size = w.heap.size + 1 := by rw [← hw1]; simp
  have HS1 := Lib.hid hs1
  rw [hw1] at B0 L0 X0
  have HL := Lib.hid hl.lt
  clear hs1 hl
  go_enter Try.func8, Try.ntmps8
  have d0 : w1.cell? ⟨w.heap.size, 0, none⟩ = some (.int .i64 m) := X0.out.cell 0
  have d1 : w1.cell? ⟨w.heap.size, 1, none⟩ = some (.int .i64 s) := X0.out.cell 1
  have d2 : w1.cell? ⟨w.heap.size, 2, none⟩ = some (.bool o) := X0.out.cell 2
  go_wp2_with fail
  clear hw1 d0 d1 d2
  refine (M.out _).mono ?_
  rintro e w2 ⟨rfl, hb2⟩
  have B2 := Lib.hid (B0.out.trans (hb2.mono (by have := HS1.out; omega)))
  have L2 := Lib.hid (L0.out.below hb2 (L0.out.lt))
  have X2 := Lib.hid (X0.out.below hb2 (by have := HS1.out; omega))
  clear hb2 L0 X0
  have e0 : w2.cell? ⟨w.heap.size, 0, none⟩ = some (.int .i64 m) := X2.out.cell 0
  have e1 : w2.cell? ⟨w.heap.size, 1, none⟩ = some (.int .i64 s) := X2.out.cell 1
  have e2 : w2.cell? ⟨w.heap.size, 2, none⟩ = some (.bool o) := X2.out.cell 2
  have B3 := Lib.hid (B2.out.alloc (by have := B2.out.size; omega) (.cells #[.int .i64 m, .int .i64 s] 56))
  have L3 := Lib.hid (L2.out.alloc (.cells #[.int .i64 m, .int .i64 s] 56))
  have X3 := Lib.hid (X2.out.alloc (.cells #[.int .i64 m, .int .i64 s] 56))
  have Y3 := Lib.hid (Lies.new w2 56 #[.int .i64 m, .int .i64 s])
  obtain ⟨w3, hw3⟩ : ∃ w3, w2.alloc (.cells #[.int .i64 m, .int .i64 s] 56) = w3 := ⟨_, rfl⟩
  rw [hw3] at B3 L3 X3 Y3
  have hs3 : w3.heap.size = w2.heap.size + 1 := by rw [← hw3]; simp
  have HS3 := Lib.hid hs3
  clear hs3
  go_wp2_with fail
  clear hw3 e0 e1 e2
  have hbk : w3.heap[b]? = w.heap[b]? := B3.out.block b hb
  have K := fun d => HK.out (w3.drewN d) hbk
  clear hbk
  have e0 : w3.cell? ⟨w.heap.size, 0, none⟩ = some (.int .i64 m) := X3.out.cell 0
  have e1 : w3.cell? ⟨w.heap.size, 1, none⟩ = some (.int .i64 s) := X3.out.cell 1
  have e2 : w3.cell? ⟨w.heap.size, 2, none⟩ = some (.bool o) := X3.out.cell 2
  have y0 : w3.cell? ⟨w2.heap.size, 0, none⟩ = some (.int .i64 m) := Y3.out.cell 0
  have y1 : w3.cell? ⟨w2.heap.size, 1, none⟩ = some (.int .i64 s) := Y3.out.cell 1
  have l0 : w3.cell? ⟨h, 0, none⟩ = some (.map (some b)) := L3.out.cell 0
  go_quiet (fail)
  have EN := fun W => run_eql_map_nil (P := Try.prog) W 52 56 4 (some b) Try.underlying52
  clear K e0 e1 e2 y0 y1 l0
  have B4 := Lib.hid (below_drewN B3.out nq)
  have e2 : (w3.drewN nq).cell? ⟨w.heap.size, 2, none⟩ = some (.bool o) := (X3.out.drewN nq).cell 2
  have y0 : (w3.drewN nq).cell? ⟨w2.heap.size, 0, none⟩ = some (.int .i64 m) := (Y3.out.drewN nq).cell 0
  have y1 : (w3.drewN nq).cell? ⟨w2.heap.size, 1, none⟩ = some (.int .i64 s) := (Y3.out.drewN nq).cell 1
  have l0 : (w3.drewN nq).cell? ⟨h, 0, none⟩ = some (.map (some b)) := (L3.out.drewN nq).cell 0
  have HO := Lib.hid (own_like HOWN.out (show (w3.drewN nq).drew.heap[b]? = w.heap[b]? from B4.out.block b hb))
  generalize w3.drewN nq = w4 at *
  have key : t = false ∨ (t = true ∧ v = false ∧ o = true) := by
    cases t
    · exact .inl rfl
    · cases v
      · cases o
        · simp at hv
        · exact .inr ⟨rfl, rfl, rfl⟩
      · simp at hv
  clear hv HK
  rcases key with rfl | ⟨rfl, rfl, rfl⟩
  all_goals
    go_wp2_with fail
    clear EN
    go_still_tail 7, (by kernel_rfl)
    repeat still_step
    refine wpList_mapUpdate_own w4.drew rfl _ _ _ 52 rfl 56 4 law Try.underlying52 (plainElem Try.prog 4) b n D rfl HO.out hn _ _ (pk m s) rfl rfl HKEY.out (.lit (.bool _)) [] (plainElem_bool Try.underlying4 _) ?_
    intro w5 hown5 hg5
    have T5 := Lib.hid ((Turn.of_below (S := fun k => k = b) B4.out.drew).grown hg5 (fun k hk => .inl (Option.some.inj hk).symm))
    have O5 := Lib.hid hown5
    clear hown5 hg5 e2 y0 y1 l0
    go_wp2
    go_ret2
    exact ⟨rfl, O5.out, T5.out⟩
set_option maxRecDepth 100000 in
set_option maxHeartbeats 4000000 in
/-- The first mark makes the map. -/
theorem pput_first (h : Nat) (r : Rd) (w : World) (hr : rightM r = true) (hl : Lies w h 54 #[.map none]) :
    Calls Try.prog 8 #[.pointer (some ⟨h, 0, none⟩), mval r] w fun e w' => e = .returned (.tuple #[.bool true, .int .i64 0]) ∧
      ∃ b, w.heap.size ≤ b ∧ Lies w' h 54 #[.map (some b)] ∧ w'.ownsMap Try.prog 56 (plainElem Try.prog 4) b 1 ((DataW.map []).put (pk r.min r.seq) (.lit (.bool (opB r))) : DataW Unit) ∧ Turn (fun k => k = h) w w' := by
  have HKEY := Lib.hid (key_of (right_in hr).1 (right_in hr).2)
  have HK := Lib.hid (fun W => Maps.look_nil (w := W) true law Try.underlying52 (zeroP W) (key_of (right_in hr).1 (right_in hr).2))
  simp only [if_true] at HK
  have M := Lib.hid (fun W => maybe_any r W)
  have HR := Lib.hid hr
  clear hr
  rw [HR.out] at M
  unfold mval pval at *
  generalize opB r = o at *
  obtain ⟨m, s, _⟩ := r
  simp only at M HK HKEY ⊢
  have B0 := Lib.hid (alloc_below w (.cells #[.int .i64 m, .int .i64 s, .bool o] 31))
  have L0 := Lib.hid (hl.alloc (.cells #[.int .i64 m, .int .i64 s, .bool o] 31))
  have X0 := Lib.hid (Lies.new w 31 #[.int .i64 m, .int .i64 s, .bool o])
  obtain ⟨w1, hw1⟩ : ∃ w1, w.alloc (.cells #[.int .i64 m, .int .i64 s, .bool o] 31) = w1 := ⟨_, rfl⟩
  have hs1 : w1.heap.size = w.heap.size + 1 := by rw [← hw1]; simp
  have HS1 := Lib.hid hs1
  rw [hw1] at B0 L0 X0
  have HL := Lib.hid hl.lt
  clear hs1 hl
  go_enter Try.func8, Try.ntmps8
  have d0 : w1.cell? ⟨w.heap.size, 0, none⟩ = some (.int .i64 m) := X0.out.cell 0
  have d1 : w1.cell? ⟨w.heap.size, 1, none⟩ = some (.int .i64 s) := X0.out.cell 1
  have d2 : w1.cell? ⟨w.heap.size, 2, none⟩ = some (.bool o) := X0.out.cell 2
  go_wp2_with fail
  clear hw1 d0 d1 d2
  refine (M.out _).mono ?_
  rintro e w2 ⟨rfl, hb2⟩
  have B2 := Lib.hid (B0.out.trans (hb2.mono (by have := HS1.out; omega)))
  have L2 := Lib.hid (L0.out.below hb2 (L0.out.lt))
  have X2 := Lib.hid (X0.out.below hb2 (by have := HS1.out; omega))
  clear hb2 L0 X0
  have e0 : w2.cell? ⟨w.heap.size, 0, none⟩ = some (.int .i64 m) := X2.out.cell 0
  have e1 : w2.cell? ⟨w.heap.size, 1, none⟩ = some (.int .i64 s) := X2.out.cell 1
  have e2 : w2.cell? ⟨w.heap.size, 2, none⟩ = some (.bool o) := X2.out.cell 2
  have B3 := Lib.hid (B2.out.alloc (by have := B2.out.size; omega) (.cells #[.int .i64 m, .int .i64 s] 56))
  have L3 := Lib.hid (L2.out.alloc (.cells #[.int .i64 m, .int .i64 s] 56))
  have X3 := Lib.hid (X2.out.alloc (.cells #[.int .i64 m, .int .i64 s] 56))
  have Y3 := Lib.hid (Lies.new w2 56 #[.int .i64 m, .int .i64 s])
  obtain ⟨w3, hw3⟩ : ∃ w3, w2.alloc (.cells #[.int .i64 m, .int .i64 s] 56) = w3 := ⟨_, rfl⟩
  rw [hw3] at B3 L3 X3 Y3
  have hs3 : w3.heap.size = w2.heap.size + 1 := by rw [← hw3]; simp
  have HS3 := Lib.hid hs3
  clear hs3
  go_wp2_with fail
  clear hw3 e0 e1 e2
  have K := fun d => HK.out (w3.drewN d)
  have e0 : w3.cell? ⟨w.heap.size, 0, none⟩ = some (.int .i64 m) := X3.out.cell 0
  have e1 : w3.cell? ⟨w.heap.size, 1, none⟩ = some (.int .i64 s) := X3.out.cell 1
  have e2 : w3.cell? ⟨w.heap.size, 2, none⟩ = some (.bool o) := X3.out.cell 2
  have y0 : w3.cell? ⟨w2.heap.size, 0, none⟩ = some (.int .i64 m) := Y3.out.cell 0
  have y1 : w3.cell? ⟨w2.heap.size, 1, none⟩ = some (.int .i64 s) := Y3.out.cell 1
  have l0 : w3.cell? ⟨h, 0, none⟩ = some (.map none) := L3.out.cell 0
  go_quiet (fail)
  have EN := fun W => run_eql_map_nil (P := Try.prog) W 52 56 4 none Try.underlying52
  have hmm := @run_makeMap Try.prog
  clear K e0 e1 e2 y0 y1 l0
  have B4 := Lib.hid (below_drewN B3.out nq)
  have L4 := Lib.hid (L3.out.drewN nq)
  have X4 := Lib.hid (X3.out.drewN nq)
  have Y4 := Lib.hid (Y3.out.drewN nq)
  generalize w3.drewN nq = w4 at *
  have l0 : w4.cell? ⟨h, 0, none⟩ = some (.map none) := L4.out.cell 0
  have L5 := Lib.hid (L4.out.alloc (.map #[] 0))
  have X5 := Lib.hid (X4.out.alloc (.map #[] 0))
  have Y5 := Lib.hid (Y4.out.alloc (.map #[] 0))
  have O5 := Lib.hid (World.ownsMap_made (H := Unit) w4 Try.prog 56 (plainElem Try.prog 4))
  have B5 := Lib.hid (B4.out.alloc B4.out.size (.map #[] 0))
  have hh4 : Hid (h < w4.heap.size) := Lib.hid L4.out.lt
  have hh2 : Hid (w2.heap.size < w4.heap.size) := Lib.hid Y4.out.lt
  have hh0 : Hid (w.heap.size ≤ w4.heap.size) := Lib.hid B4.out.size
  have hh1 : Hid (w.heap.size ≤ w2.heap.size) := Lib.hid B2.out.size
  obtain ⟨w5, hw5⟩ : ∃ w5, w4.alloc (.map #[] 0) = w5 := ⟨_, rfl⟩
  rw [hw5] at L5 X5 Y5 O5 B5
  have l5 : w5.cell? ⟨h, 0, none⟩ = some (.map none) := L5.out.cell 0
  have f5 : w5.frozen? ⟨h, 0, none⟩ = false := L5.out.frozen 0
  go_wp2_with fail
  clear hw5 EN hmm l0 l5 f5
  have hne : h ≠ w4.heap.size := by have := hh4.out; omega
  have L6 : Hid (Lies (w5.setCell ⟨h, 0, none⟩ (.map (some w4.heap.size))) h 54 #[.map (some w4.heap.size)]) := Lib.hid (L5.out.set_ 0 (.map (some w4.heap.size)))
  have X6 : Hid (Lies (w5.setCell ⟨h, 0, none⟩ (.map (some w4.heap.size))) w.heap.size 31 #[.int .i64 m, .int .i64 s, .bool o]) :=
    Lib.hid (X5.out.like (Below.heap_setCell w5 ⟨h, 0, none⟩ _ _ (by have := HL.out; simp only; omega)))
  have Y6 : Hid (Lies (w5.setCell ⟨h, 0, none⟩ (.map (some w4.heap.size))) w2.heap.size 56 #[.int .i64 m, .int .i64 s]) :=
    Lib.hid (Y5.out.like (Below.heap_setCell w5 ⟨h, 0, none⟩ _ _ (by have := HL.out; have := hh1.out; simp only; omega)))
  have O6 := Lib.hid (own_like O5.out (Below.heap_setCell w5 ⟨h, 0, none⟩ (.map (some w4.heap.size)) w4.heap.size hne.symm))
  have T6 := Lib.hid ((Turn.of_below (S := fun k => k = h) B5.out).setCell (p := ⟨h, 0, none⟩) (.inl rfl) (.map (some w4.heap.size)))
  generalize w5.setCell ⟨h, 0, none⟩ (.map (some w4.heap.size)) = w6 at *
  have l0 : w6.cell? ⟨h, 0, none⟩ = some (.map (some w4.heap.size)) := L6.out.cell 0
  have e2 : w6.cell? ⟨w.heap.size, 2, none⟩ = some (.bool o) := X6.out.cell 2
  have y0 : w6.cell? ⟨w2.heap.size, 0, none⟩ = some (.int .i64 m) := Y6.out.cell 0
  have y1 : w6.cell? ⟨w2.heap.size, 1, none⟩ = some (.int .i64 s) := Y6.out.cell 1
  generalize w4.heap.size = b at *
  have HN := Lib.hid hne
  clear hne
  go_still_tail 7, (by kernel_rfl)
  repeat still_step
  refine wpList_mapUpdate_own w6.drew rfl _ _ _ 52 rfl 56 4 law Try.underlying52 (plainElem Try.prog 4) b 0 (.map []) rfl O6.out.drew (by decide) _ _ (pk m s) rfl rfl HKEY.out (.lit (.bool _)) [] (plainElem_bool Try.underlying4 _) ?_
  intro w7 hown7 hg7
  have T7 := Lib.hid (T6.out.drew.grown hg7 (fun k hk => .inr (by have := Option.some.inj hk; have := hh0.out; omega)))
  have L7 : Hid (Lies w7 h 54 #[.map (some b)]) := Lib.hid (L6.out.like (hg7.block h L6.out.lt (fun e => HN.out (Option.some.inj e))))
  have O7 := Lib.hid hown7
  clear hown7 hg7 e2 y0 y1 l0
  go_wp2
  go_ret2
  exact ⟨rfl, b, hh0.out, L7.out, O7.out, T7.out⟩
/-- Put, whole. -/
theorem pput_any (B h : Nat) (F : Nat → Prop) (S : List Rd) (r : Rd) (w : World) (hp : PDoor w B h F S) (hS : Good S) (hL : S.length ≤ 1000) (hb : binB r = true) :
    Calls Try.prog 8 #[.pointer (some ⟨h, 0, none⟩), mval r] w fun e w' =>
      e = .returned (.tuple #[.bool (putM S r).1, .int .i64 ((putM S r).2.1 : Nat)]) ∧ ∃ F', PDoor w' B h F' (putM S r).2.2 ∧ Turn F w w' ∧ ∀ k, F' k → F k ∨ w.heap.size ≤ k := by
  have same : ∀ w', Below w.heap.size w w' → ∃ F', PDoor w' B h F' S ∧ Turn F w w' ∧ ∀ k, F' k → F k ∨ w.heap.size ≤ k := fun w' hB =>
    ⟨F, pdoor_turn hp (T := fun _ => False) (Turn.of_below hB) (fun _ _ hf => hf), Turn.of_below hB, fun k hk => .inl hk⟩
  by_cases hr : rightM r = true
  case neg =>
    have hr' : rightM r = false := by simpa using hr
    unfold putM
    rw [if_neg hr]
    exact (pput_no h r w hr').mono fun e w' ⟨he, hB⟩ => ⟨he, same w' hB⟩
  unfold putM
  rw [if_pos hr]
  obtain ⟨mo, hl, hB, hF, hm⟩ := hp
  have hri := right_in hr
  rcases hm with ⟨rfl, rfl⟩ | ⟨b, D, rfl, hne, hBb, hown, hM⟩
  · refine (pput_first h r w hr hl).mono fun e w' ⟨he, b, hb1, hl1, ho1, ht1⟩ => ?_
    have hc : (put ([] : List Rd) r).1 = true := by rw [put_no (by simp)]
    have hM1 := mp_put mp_nil good_nil Maps.tidy_empty hb hr hc
    have hl0 := hl.lt
    have hlen : 1 = (sortL (put ([] : List Rd) r).2).length := by rw [len_sort, put_no (by simp)]; rfl
    refine ⟨by rw [hc]; exact he, fun k => k = h ∨ some b = some k, ⟨some b, hl1, hB, fun k => Iff.rfl, .inr ⟨b, _, rfl, by omega, by omega, hlen ▸ ho1, hM1⟩⟩, ht1.mono (fun i _ hi => (hF i).2 (.inl hi)), fun k hk => ?_⟩
    rcases hk with rfl | hk
    · exact .inl ((hF k).2 (.inl rfl))
    · exact .inr (by have := Option.some.inj hk; omega)
  · obtain ⟨v, hv, hk⟩ := look hown hri.1 hri.2
    have htell := put_tells hM hS hb hr false v hv
    by_cases hc : (put S r).1 = true
    · have htidy := hown.tidy law
      have hM1 := mp_put hM hS htidy hb hr hc
      refine (pput_set h b S.length D r w hr hl hown.lt (by unfold maxLen; omega) v _ (by rw [hc] at htell; exact Eq.mp (Bool.not_eq_true' _) htell.symm) hown hk).mono fun e w' ⟨he, ho1, ht1⟩ => ?_
      refine ⟨by rw [hc]; exact he, F, ⟨some b, hl.turn ht1 (fun e => hne e.symm), hB, hF, .inr ⟨b, _, rfl, hne, hBb, ?_, hM1⟩⟩, ht1.mono (fun i _ hi => (hF i).2 (.inr (by rw [hi]))), fun k hk => .inl hk⟩
      have := own_tight ho1
      rwa [hM1.size] at this
    · have hc' : (put S r).1 = false := by simpa using hc
      rw [hc'] at htell
      have h2 : Maps.has D (pk r.min r.seq) = true ∧ (v || !opB r) = true := Eq.mp (Bool.and_eq_true _ _) (Eq.mp (Bool.not_eq_false' _) htell.symm)
      rw [hc', putM_same hS hc']
      refine (pput_there h b r w hr hl hown.lt v h2.2 (fun W hW => by rw [hk W hW, h2.1])).mono fun e w' ⟨he, hB'⟩ => ⟨he, same w' hB'⟩
end Dr
end Go.Proofs.Ytfdakkghikimcaa
