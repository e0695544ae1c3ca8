/- Walks over package door: the marks that count. No condition but those written. -/
import Derived.Test.YtfdakkghikimcaaDrP6
import Derived.Test.YtfdakkghikimcaaDrFace
namespace Go.Proofs.Ytfdakkghikimcaa
open Go.RowKit Go.Maps

namespace Dr
open Se
/-- Of each minute the last mark. -/
def lstep (acc : List Rd) (x : Rd) : List Rd := match acc.getLast? with
  | none => acc ++ [x]
  | some y => if y.min = x.min then acc.dropLast ++ [x] else acc ++ [x]
def lasts (S : List Rd) : List Rd := S.foldl lstep []
theorem lstep_nil (x : Rd) : lstep [] x = [x] := rfl
theorem lstep_same {A : List Rd} {y x : Rd} (h : y.min = x.min) : lstep (A ++ [y]) x = A ++ [x] := by
  unfold lstep
  rw [List.getLast?_concat]
  simp [h]
theorem lstep_new {A : List Rd} {y x : Rd} (h : y.min ≠ x.min) : lstep (A ++ [y]) x = A ++ [y] ++ [x] := by
  unfold lstep
  rw [List.getLast?_concat]
  simp [h]
theorem lasts_next {S : List Rd} {k : Nat} {x : Rd} (hx : S[k]? = some x) : lasts (S.take (k + 1)) = lstep (lasts (S.take k)) x := by
  unfold lasts
  rw [List.take_add_one, hx, Option.toList_some, List.foldl_append]
  rfl
theorem list_ends (A : List Rd) : A = [] ∨ ∃ B y, A = B ++ [y] := by
  rcases List.eq_nil_or_concat A with h | ⟨B, y, h⟩
  · exact .inl h
  · exact .inr ⟨B, y, by rw [h, List.concat_eq_append]⟩
theorem lstep_len (A : List Rd) (x : Rd) : (lstep A x).length ≤ A.length + 1 := by
  rcases list_ends A with rfl | ⟨B, y, rfl⟩
  · simp [lstep_nil]
  · by_cases h : y.min = x.min
    · rw [lstep_same h]
      simp
    · rw [lstep_new h]
      simp
theorem lstep_opn (A : List Rd) (x : Rd) (m : Int) : opnF (lstep A x) m = if x.min ≤ m then opB x else opnF A m := by
  rcases list_ends A with rfl | ⟨B, y, rfl⟩
  · rw [lstep_nil, show [x] = [] ++ [x] from rfl, opnF_snoc]
  · by_cases h : y.min = x.min
    · rw [lstep_same h, opnF_snoc, opnF_snoc]
      by_cases hm : x.min ≤ m
      · rw [if_pos hm, if_pos hm]
      · rw [if_neg hm, if_neg hm, if_neg (by omega)]
    · rw [lstep_new h, opnF_snoc]
theorem lasts_opn (S : List Rd) (m : Int) : opnF (lasts S) m = opnF S m := by
  have key : ∀ l : List Rd, opnF (lasts l.reverse) m = opnF l.reverse m := by
    intro l
    induction l with
    | nil => rfl
    | cons x l ih =>
      rw [List.reverse_cons, opnF_snoc]
      unfold lasts at ih ⊢
      rw [List.foldl_append]
      show opnF (lstep _ x) m = _
      rw [lstep_opn, ih]
  have := key S.reverse
  rwa [List.reverse_reverse] at this
/-- Minutes rise. -/
def Rises (L : List Rd) : Prop := L.Pairwise fun a b => a.min < b.min
theorem lasts_good {S : List Rd} (hS : Good S) : Rises (lasts S) ∧ (∀ x ∈ lasts S, x ∈ S) ∧ (lasts S).length ≤ S.length := by
  have key : ∀ l : List Rd, Sorted l.reverse → Rises (lasts l.reverse) ∧ (∀ x ∈ lasts l.reverse, x ∈ l.reverse) ∧ (lasts l.reverse).length ≤ l.reverse.length := by
    intro l
    induction l with
    | nil => exact fun _ => ⟨List.Pairwise.nil, (fun x hx => by cases hx), Nat.le_refl _⟩
    | cons x l ih =>
      intro hp
      rw [List.reverse_cons] at hp ⊢
      have hp' := List.pairwise_append.1 hp
      obtain ⟨h1, h2, h3⟩ := ih hp'.1
      have e : lasts (l.reverse ++ [x]) = lstep (lasts l.reverse) x := by
        unfold lasts
        rw [List.foldl_append]
        rfl
      rw [e]
      have hle : ∀ y ∈ lasts l.reverse, y.min ≤ x.min := by
        intro y hy
        have := hp'.2.2 y (h2 y hy) x (by simp)
        unfold lt at this
        omega
      have hlen := lstep_len (lasts l.reverse) x
      refine ⟨?_, ?_, by simp only [List.length_append, List.length_cons, List.length_nil]; omega⟩
      · rcases list_ends (lasts l.reverse) with e0 | ⟨B, y, e0⟩
        · rw [e0, lstep_nil]
          exact List.pairwise_singleton _ _
        · rw [e0] at h1 hle ⊢
          have h1' := List.pairwise_append.1 h1
          by_cases h : y.min = x.min
          · rw [lstep_same h]
            refine List.pairwise_append.2 ⟨h1'.1, by simp, fun a ha b hb => ?_⟩
            rw [List.mem_singleton.1 hb, ← h]
            exact h1'.2.2 a ha y (by simp)
          · rw [lstep_new h]
            refine List.pairwise_append.2 ⟨h1, by simp, fun a ha b hb => ?_⟩
            rw [List.mem_singleton.1 hb]
            have hy := hle y (by simp)
            rcases List.mem_append.1 ha with ha | ha
            · have := h1'.2.2 a ha y (by simp)
              omega
            · rw [List.mem_singleton.1 ha]
              omega
      · intro z hz
        rcases list_ends (lasts l.reverse) with e0 | ⟨B, y, e0⟩
        · rw [e0, lstep_nil] at hz
          simp at hz
          simp [hz]
        · rw [e0] at hz h2
          by_cases h : y.min = x.min
          · rw [lstep_same h] at hz
            rcases List.mem_append.1 hz with hz | hz
            · exact List.mem_append.2 (.inl (h2 z (by simp [hz])))
            · exact List.mem_append.2 (.inr hz)
          · rw [lstep_new h] at hz
            rcases List.mem_append.1 hz with hz | hz
            · exact List.mem_append.2 (.inl (h2 z hz))
            · exact List.mem_append.2 (.inr hz)
  have := key S.reverse
  rw [List.reverse_reverse] at this
  exact this hS.sorted
set_option maxRecDepth 100000 in
set_option maxHeartbeats 8000000 in
theorem plast_any (B h : Nat) (F : Nat → Prop) (S : List Rd) (w : World) (hp : PDoor w B h F S) (hS : Good S) (hL : S.length ≤ 1000) :
    Calls Try.prog 25 #[.pointer (some ⟨h, 0, none⟩)] w fun e w' => ∃ v, e = .returned v ∧ w'.ownsRow w.heap.size 31 3 v (lasts S).length ((lasts S).flatMap mcells) ∧ Below w.heap.size w w' := by
  obtain ⟨i0, hi, hz0, hz1, hz2⟩ := info_parts infoM
  have A0 := Lib.hid (fun W (hW : PDoor W B h F S) => ptold_any B h F S W hW hS hL)
  have HP := Lib.hid hp
  clear hp hS
  go_enter Try.func25, Try.ntmps25
  go_wp2_with fail
  refine (A0.out _ HP.out).mono ?_
  rintro e w1 ⟨vs, rfl, hown1, hb1⟩
  obtain ⟨q, c, rfl, _, hrs⟩ := rw_own mcells_len hown1
  have RS := Lib.hid hrs
  have BW := Lib.hid hb1
  clear hown1 hb1 hrs HP A0
  obtain ⟨n, hn⟩ : ∃ n, S.length = n := ⟨_, rfl⟩
  rw [hn] at RS hL
  have HN := Lib.hid hn
  rw [hn]
  clear hn
  go_wp2
  go_loopw [3, 10] (fun v i wr => ∃ k m : Nat, k ≤ n ∧ m ≤ k ∧ i = .int .i64 k ∧ (∃ q2 d, v = .slice q2 m d) ∧ Hid ((lasts (S.take k)).length = m) ∧ Hid (wr.ownsRow w1.heap.size 31 3 v m ((lasts (S.take k)).flatMap mcells)) ∧ Hid (Below w1.heap.size w1 wr)) (fun _ i _ => n - (intOf i).toNat)
  case atStart => exact ⟨0, 0, Nat.zero_le _, Nat.le_refl _, rfl, ⟨none, 0, rfl⟩, Lib.hid rfl, Lib.hid (World.ownsRow_nil _ _ _ _), Lib.hid (Below.refl _ _)⟩
  case round =>
    obtain ⟨k, m, hk, hmk, rfl, ⟨q2, d, rfl⟩, HL, RW, HB⟩ := hrel
    by_cases hlt : k < n
    · obtain ⟨x, hx⟩ : ∃ x, S[k]? = some x := ⟨_, List.getElem?_eq_getElem (by rw [HN.out]; exact hlt)⟩
      have HNX := Lib.hid (lasts_next hx)
      have RS2 := RS.out.keep mcells_len HB.out
      obtain ⟨b, o, rfl, hc⟩ := RS2.2 (by omega)
      have e0 : wr.cell? ⟨b, o + k * 3, none⟩ = some (.int .i64 x.min) := hc k x hx 0 (by decide)
      have e1 : wr.cell? ⟨b, o + k * 3 + 1, none⟩ = some (.int .i64 x.seq) := hc k x hx 1 (by decide)
      have e2 : wr.cell? ⟨b, o + k * 3 + 2, none⟩ = some (.bool (opB x)) := hc k x hx 2 (by decide)
      have hk3 : (k : Int) < (n : Int) := by omega
      clear hc hx RS2
      generalize lasts (S.take k) = acc at *
      rcases list_ends acc with rfl | ⟨A, y, rfl⟩
      · have hm0 : m = 0 := HL.out.symm
        subst hm0
        rw [lstep_nil] at HNX
        have hlen0 : (([] : List Rd).length : Int) = 0 := rfl
        have X4 := Lib.hid (Lies.new wr 31 #[.int .i64 x.min, .int .i64 x.seq, .bool (opB x)])
        have RW4 := Lib.hid (RW.out.alloc (.cells #[.int .i64 x.min, .int .i64 x.seq, .bool (opB x)] 31))
        have B4 := Lib.hid (HB.out.alloc HB.out.size (.cells #[.int .i64 x.min, .int .i64 x.seq, .bool (opB x)] 31))
        have hs4 : (wr.alloc (.cells #[.int .i64 x.min, .int .i64 x.seq, .bool (opB x)] 31)).heap.size = wr.heap.size + 1 := by simp
        have HS4 := Lib.hid hs4
        have hws := Lib.hid HB.out.size
        clear hs4
        go_wp2_with fail
        generalize wr.alloc (.cells #[.int .i64 x.min, .int .i64 x.seq, .bool (opB x)] 31) = w4 at *
        have x0 : w4.cell? ⟨wr.heap.size, 0, none⟩ = some (.int .i64 x.min) := X4.out.cell 0
        go_quiet (fail)
        clear x0
        have X5 := Lib.hid (X4.out.drewN nq)
        have RW5 := Lib.hid (own_drewN RW4.out nq)
        have B5 := Lib.hid (below_drewN B4.out nq)
        have hs5 : (w4.drewN nq).heap.size = w4.heap.size := rfl
        have HS5 := Lib.hid (hs5.trans HS4.out)
        clear hs5
        generalize w4.drewN nq = w5 at *
        have x0 : w5.cell? ⟨wr.heap.size, 0, none⟩ = some (.int .i64 x.min) := X5.out.cell 0
        have x1 : w5.cell? ⟨wr.heap.size, 1, none⟩ = some (.int .i64 x.seq) := X5.out.cell 1
        have x2 : w5.cell? ⟨wr.heap.size, 2, none⟩ = some (.bool (opB x)) := X5.out.cell 2
        clear X4 RW4 B4 HS4
        have RW6 := Lib.hid (RW5.out.alloc (.cells #[.int .i64 x.min, .int .i64 x.seq, .bool (opB x)] 31))
        have B6 := Lib.hid (B5.out.alloc B5.out.size (.cells #[.int .i64 x.min, .int .i64 x.seq, .bool (opB x)] 31))
        go_wp2_with (at_builtin; refine wpList_append_own _ rfl _ _ 22 rfl w1.heap.size 31 i0 _ 3 24 Try.underlying22 hi hz0 hz1 hz2 rfl (by decide) _ _ _ rfl RW6.out ⟨w5.heap.size, 0, none⟩ 1 1 [.int .i64 x.min, .int .i64 x.seq, .bool (opB x)] rfl rfl (World.news_of_block (cs := #[.int .i64 x.min, .int .i64 x.seq, .bool (opB x)]) (t := 31) (fr := (0, 0)) (heap_alloc_new w5 _)) (by simp [Value.oneCell']) (by unfold maxLen; omega) (by omega) (by have := HS5.out; have := hws.out; simp; omega) ?_; intro v2 w7 hown7 hg7 _)
        have RW7 : Hid (w7.ownsRow w1.heap.size 31 3 v2 (0 + 1) ((([] : List Rd) ++ [x]).flatMap mcells)) := Lib.hid (by rw [← flat_snoc]; exact hown7)
        have B7 := Lib.hid (B6.out.grown hg7 B6.out.size (fun j hj => (own_lt RW6.out hj).1))
        clear hown7 hg7 x0 x1 x2
        obtain ⟨q3, d3, rfl⟩ := own_slice RW7.out
        go_wp2
        go_roundw
        case rel => exact ⟨k + 1, 0 + 1, by omega, by omega, by go_num, ⟨q3, d3, rfl⟩, Lib.hid (by rw [HNX.out]; simp), Lib.hid (by rw [HNX.out]; exact RW7.out), B7⟩
        case measure => simp [intOf]; omega
      · have hm0 : m = A.length + 1 := by rw [← HL.out]; simp
        subst hm0
        by_cases hs : y.min = x.min
        · obtain ⟨g, d', e, hg1, hg2, _⟩ := own_some RW.out (by omega)
          cases e
          have hy : (A ++ [y])[A.length]? = some y := by simp
          have HW := Lib.hid (show IntKind.i64.wrap (((A.length + 1 : Nat) : Int) - 1) = (A.length : Int) by rw [show ((A.length + 1 : Nat) : Int) - 1 = (A.length : Int) by omega]; exact IntWalk.i64_in _ (by omega))
          rw [lstep_same hs] at HNX
          have X4 := Lib.hid (Lies.new wr 31 #[.int .i64 x.min, .int .i64 x.seq, .bool (opB x)])
          have RW4 := Lib.hid (RW.out.alloc (.cells #[.int .i64 x.min, .int .i64 x.seq, .bool (opB x)] 31))
          have B4 := Lib.hid (HB.out.alloc HB.out.size (.cells #[.int .i64 x.min, .int .i64 x.seq, .bool (opB x)] 31))
          have hs4 : (wr.alloc (.cells #[.int .i64 x.min, .int .i64 x.seq, .bool (opB x)] 31)).heap.size = wr.heap.size + 1 := by simp
          have HS4 := Lib.hid hs4
          have hws := Lib.hid HB.out.size
          clear hs4
          go_wp2_with fail
          generalize wr.alloc (.cells #[.int .i64 x.min, .int .i64 x.seq, .bool (opB x)] 31) = w4 at *
          have x0 : w4.cell? ⟨wr.heap.size, 0, none⟩ = some (.int .i64 x.min) := X4.out.cell 0
          have y0 : w4.cell? ⟨g, A.length * 3, none⟩ = some (.int .i64 y.min) := row_cell mcells_len RW4.out HL.out hy (i := 0) (by decide)
          rw [hs] at y0
          go_quiet (fail)
          clear x0
          have X5 := Lib.hid (X4.out.drewN nq)
          have RW5 := Lib.hid (own_drewN RW4.out nq)
          have B5 := Lib.hid (below_drewN B4.out nq)
          have hs5 : (w4.drewN nq).heap.size = w4.heap.size := rfl
          have HS5 := Lib.hid (hs5.trans HS4.out)
          clear hs5
          generalize w4.drewN nq = w5 at *
          have x0 : w5.cell? ⟨wr.heap.size, 0, none⟩ = some (.int .i64 x.min) := X5.out.cell 0
          have x1 : w5.cell? ⟨wr.heap.size, 1, none⟩ = some (.int .i64 x.seq) := X5.out.cell 1
          have x2 : w5.cell? ⟨wr.heap.size, 2, none⟩ = some (.bool (opB x)) := X5.out.cell 2
          clear X4 RW4 B4 HS4
          have y0 : w5.cell? ⟨g, A.length * 3, none⟩ = some (.int .i64 y.min) := row_cell mcells_len RW5.out HL.out hy (i := 0) (by decide)
          have y1 : w5.cell? ⟨g, A.length * 3 + 1, none⟩ = some (.int .i64 y.seq) := row_cell mcells_len RW5.out HL.out hy (i := 1) (by decide)
          have y2 : w5.cell? ⟨g, A.length * 3 + 2, none⟩ = some (.bool (opB y)) := row_cell mcells_len RW5.out HL.out hy (i := 2) (by decide)
          have f0 := RW5.out.frozenAt (A.length * 3)
          have f1 := RW5.out.frozenAt (A.length * 3 + 1)
          have f2 := RW5.out.frozenAt (A.length * 3 + 2)
          have h1 := row_store mcells_len RW5.out hy (x' := (⟨x.min, y.seq, y.ten⟩ : Rd)) (i := 0) (by decide) (u := .int .i64 x.min) rfl
          have h2 := row_store mcells_len h1 (j := A.length) (x := (⟨x.min, y.seq, y.ten⟩ : Rd)) (by simp) (x' := (⟨x.min, x.seq, y.ten⟩ : Rd)) (i := 1) (by decide) (u := .int .i64 x.seq) rfl
          have h3 := row_store mcells_len h2 (j := A.length) (x := (⟨x.min, x.seq, y.ten⟩ : Rd)) (by simp) (x' := x) (i := 2) (by decide) (u := .bool (opB x)) rfl
          have RW6 : Hid ((((w5.setCell ⟨g, A.length * 3, none⟩ (.int .i64 x.min)).setCell ⟨g, A.length * 3 + 1, none⟩ (.int .i64 x.seq)).setCell ⟨g, A.length * 3 + 2, none⟩ (.bool (opB x))).ownsRow w1.heap.size 31 3 (.slice (some ⟨g, 0, none⟩) (A.length + 1) d) (A.length + 1) ((A ++ [x]).flatMap mcells)) := Lib.hid (by
            have e9 : (((A ++ [y]).set A.length (⟨x.min, y.seq, y.ten⟩ : Rd)).set A.length (⟨x.min, x.seq, y.ten⟩ : Rd)).set A.length x = A ++ [x] := by simp
            rw [e9] at h3
            exact h3)
          have B6 := Lib.hid (((B5.out.setCell (p := ⟨g, A.length * 3, none⟩) hg1 (.int .i64 x.min)).setCell (p := ⟨g, A.length * 3 + 1, none⟩) hg1 (.int .i64 x.seq)).setCell (p := ⟨g, A.length * 3 + 2, none⟩) hg1 (.bool (opB x)))
          clear h1 h2 h3 hy hs
          go_wp2
          go_roundw
          case rel => exact ⟨k + 1, A.length + 1, by omega, by omega, by go_num, ⟨some ⟨g, 0, none⟩, d, rfl⟩, Lib.hid (by rw [HNX.out]; simp), Lib.hid (by rw [HNX.out]; exact RW6.out), B6⟩
          case measure => simp [intOf]; omega
        · obtain ⟨g, d', e, hg1, hg2, _⟩ := own_some RW.out (by omega)
          cases e
          have hy : (A ++ [y])[A.length]? = some y := by simp
          have HW := Lib.hid (show IntKind.i64.wrap (((A.length + 1 : Nat) : Int) - 1) = (A.length : Int) by rw [show ((A.length + 1 : Nat) : Int) - 1 = (A.length : Int) by omega]; exact IntWalk.i64_in _ (by omega))
          rw [lstep_new hs] at HNX
          have X4 := Lib.hid (Lies.new wr 31 #[.int .i64 x.min, .int .i64 x.seq, .bool (opB x)])
          have RW4 := Lib.hid (RW.out.alloc (.cells #[.int .i64 x.min, .int .i64 x.seq, .bool (opB x)] 31))
          have B4 := Lib.hid (HB.out.alloc HB.out.size (.cells #[.int .i64 x.min, .int .i64 x.seq, .bool (opB x)] 31))
          have hs4 : (wr.alloc (.cells #[.int .i64 x.min, .int .i64 x.seq, .bool (opB x)] 31)).heap.size = wr.heap.size + 1 := by simp
          have HS4 := Lib.hid hs4
          have hws := Lib.hid HB.out.size
          clear hs4
          go_wp2_with fail
          generalize wr.alloc (.cells #[.int .i64 x.min, .int .i64 x.seq, .bool (opB x)] 31) = w4 at *
          have x0 : w4.cell? ⟨wr.heap.size, 0, none⟩ = some (.int .i64 x.min) := X4.out.cell 0
          have y0 : w4.cell? ⟨g, A.length * 3, none⟩ = some (.int .i64 y.min) := row_cell mcells_len RW4.out HL.out hy (i := 0) (by decide)
          have t1 : (y.min == x.min) = false := by simp [hs]
          go_quiet (fail)
          clear x0
          have X5 := Lib.hid (X4.out.drewN nq)
          have RW5 := Lib.hid (own_drewN RW4.out nq)
          have B5 := Lib.hid (below_drewN B4.out nq)
          have hs5 : (w4.drewN nq).heap.size = w4.heap.size := rfl
          have HS5 := Lib.hid (hs5.trans HS4.out)
          clear hs5
          generalize w4.drewN nq = w5 at *
          have x0 : w5.cell? ⟨wr.heap.size, 0, none⟩ = some (.int .i64 x.min) := X5.out.cell 0
          have x1 : w5.cell? ⟨wr.heap.size, 1, none⟩ = some (.int .i64 x.seq) := X5.out.cell 1
          have x2 : w5.cell? ⟨wr.heap.size, 2, none⟩ = some (.bool (opB x)) := X5.out.cell 2
          clear X4 RW4 B4 HS4
          clear y0 t1
          have RW6 := Lib.hid (RW5.out.alloc (.cells #[.int .i64 x.min, .int .i64 x.seq, .bool (opB x)] 31))
          have B6 := Lib.hid (B5.out.alloc B5.out.size (.cells #[.int .i64 x.min, .int .i64 x.seq, .bool (opB x)] 31))
          go_wp2_with (at_builtin; refine wpList_append_own _ rfl _ _ 22 rfl w1.heap.size 31 i0 _ 3 24 Try.underlying22 hi hz0 hz1 hz2 rfl (by decide) _ _ _ rfl RW6.out ⟨w5.heap.size, 0, none⟩ 1 1 [.int .i64 x.min, .int .i64 x.seq, .bool (opB x)] rfl rfl (World.news_of_block (cs := #[.int .i64 x.min, .int .i64 x.seq, .bool (opB x)]) (t := 31) (fr := (0, 0)) (heap_alloc_new w5 _)) (by simp [Value.oneCell']) (by unfold maxLen; omega) (by omega) (by have := HS5.out; have := hws.out; simp; omega) ?_; intro v2 w7 hown7 hg7 _)
          have RW7 : Hid (w7.ownsRow w1.heap.size 31 3 v2 ((A.length + 1) + 1) (((A ++ [y]) ++ [x]).flatMap mcells)) := Lib.hid (by rw [← flat_snoc]; exact hown7)
          have B7 := Lib.hid (B6.out.grown hg7 B6.out.size (fun j hj => (own_lt RW6.out hj).1))
          clear hown7 hg7 x0 x1 x2
          obtain ⟨q3, d3, rfl⟩ := own_slice RW7.out
          go_wp2
          go_roundw
          case rel => exact ⟨k + 1, (A.length + 1) + 1, by omega, by omega, by go_num, ⟨q3, d3, rfl⟩, Lib.hid (by rw [HNX.out]; simp), Lib.hid (by rw [HNX.out]; exact RW7.out), B7⟩
          case measure => simp [intOf]; omega
    · obtain rfl : k = n := by omega
      have HT := Lib.hid (show S.take k = S from List.take_of_length_le (by rw [HN.out]; exact Nat.le_refl _))
      go_wp2
      go_ret
      refine ⟨_, rfl, ?_, BW.out.trans (HB.out.mono BW.out.size)⟩
      have h9 := RW.out
      have h8 := HL.out
      rw [HT.out] at h9 h8
      rw [h8]
      exact own_base h9 BW.out.size
end Dr
end Go.Proofs.Ytfdakkghikimcaa
