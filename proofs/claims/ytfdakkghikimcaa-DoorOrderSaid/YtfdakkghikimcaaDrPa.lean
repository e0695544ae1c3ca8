/- Walks over package door: Alarms. No condition but those written. -/
import Derived.Test.YtfdakkghikimcaaDrP9
namespace Go.Proofs.Ytfdakkghikimcaa
open Go.RowKit Go.Maps

namespace Dr
open Se
/-- Runs of which some were struck, so far: what is kept stands first. -/
structure DelI (R : List Ru) (j : Int) (i k : Nat) (X : List Ru) : Prop where
  len : X.length = R.length
  ik : i < k
  done : X.take i = (R.take k).filter (longB j)
  rest : X.drop k = R.drop k
section
variable {R X : List Ru} {j : Int} {i k : Nat} {r : Ru}
theorem del_start {k : Nat} (hk : k < R.length) (h1 : ∀ r ∈ R.take k, longB j r = true) (h2 : ∀ r, R[k]? = some r → longB j r = false) : DelI R j k (k + 1) R := by
  refine ⟨rfl, Nat.lt_succ_self k, ?_, rfl⟩
  have hx : R[k]? = some R[k] := List.getElem?_eq_getElem hk
  rw [List.take_add_one, hx, Option.toList_some, List.filter_append, List.filter_eq_self.2 h1, List.filter_cons, h2 _ hx]
  simp
theorem del_at (h : DelI R j i k X) (hr : R[k]? = some r) : X[k]? = some r := by
  have := congrArg (fun l => l[0]?) h.rest
  simp only [List.getElem?_drop, Nat.add_zero] at this
  rw [this, hr]
theorem del_skip (h : DelI R j i k X) (hr : R[k]? = some r) (hl : longB j r = false) : DelI R j i (k + 1) X := by
  refine ⟨h.len, Nat.lt_succ_of_lt h.ik, ?_, ?_⟩
  · rw [List.take_add_one, hr, Option.toList_some, List.filter_append, h.done]
    simp [hl]
  · rw [← List.drop_drop, ← List.drop_drop, h.rest]
theorem del_keep (h : DelI R j i k X) (hr : R[k]? = some r) (hl : longB j r = true) : DelI R j (i + 1) (k + 1) (X.set i r) := by
  have hk : k < X.length := (List.getElem?_eq_some_iff.1 (del_at h hr)).1
  have hi : i < X.length := Nat.lt_trans h.ik hk
  refine ⟨by rw [List.length_set, h.len], Nat.succ_lt_succ h.ik, ?_, ?_⟩
  · rw [List.take_add_one (l := R), hr, Option.toList_some, List.filter_append, ← h.done, List.take_add_one, List.getElem?_set_self hi, List.take_set_of_le (Nat.le_refl _)]
    simp [hl]
  · rw [List.drop_set_of_lt (Nat.lt_succ_of_lt h.ik), show k.succ = k + 1 from rfl, ← List.drop_drop, ← List.drop_drop, h.rest]
theorem del_end (h : DelI R j i k X) (hk : R.length ≤ k) : X.take i = R.filter (longB j) := by
  rw [h.done, List.take_of_length_le hk]
end
theorem zeroR (w : World) : (zeroValue 50).run Try.prog w = .ok (.agg #[.int .i64 0, .int .i64 0]) w := by kernel_rfl
/-- What is left of the runs. -/
def DelEnd (B : Nat) (R : List Ru) (j : Int) (w : World) (e : Ending) (w' : World) : Prop :=
  ∃ v, e = .returned v ∧ w'.ownsRow B 50 2 v (R.filter (longB j)).length ((R.filter (longB j)).flatMap ucells) ∧ Below B w w'
set_option maxRecDepth 100000 in
set_option maxHeartbeats 8000000 in
theorem pdel_any (B : Nat) (v : Value) (R : List Ru) (j : Int) (g : Nat) (w : World) (h : w.ownsRow B 50 2 v R.length (R.flatMap ucells)) (hB : B ≤ w.heap.size) (hn : R.length ≤ 1048576) (hj : w.cell? ⟨g, 0, none⟩ = some (.int .i64 j)) (hg : g < B) (hR : ∀ r ∈ R, okR r) :
    Calls Try.prog 27 #[v, .func (.func 28) #[] #[.pointer (some ⟨g, 0, none⟩)]] w (DelEnd B R j w) := by
  obtain ⟨q, c, rfl, hnc, hrw⟩ := rw_own ucells_len h
  have HO := Lib.hid h
  have HJ := Lib.hid hj
  have HG := Lib.hid hg
  have HR := Lib.hid hR
  have HBS := Lib.hid hB
  have I0 := Lib.hid (pidx_any q R.length c R j g w hrw hn hj (Nat.lt_of_lt_of_le hg hB) hR)
  clear h hj hg hR hrw hB
  obtain ⟨n, hn'⟩ : ∃ n, R.length = n := ⟨_, rfl⟩
  have HN := Lib.hid hn'
  rw [hn'] at HO I0 hn hnc ⊢
  clear hn'
  go_enter Try.func27, Try.ntmps27
  go_wp2_with fail
  refine I0.out.mono ?_
  rintro e w1 ⟨i0, rfl, hb1, hor⟩
  have B1 : Hid (Below B w w1) := Lib.hid (hb1.mono HBS.out)
  have O1 : Hid (w1.ownsRow B 50 2 (.slice q n c) n (R.flatMap ucells)) := Lib.hid (own_turn HO.out (Turn.of_below (S := fun _ => False) hb1) (fun _ _ hf => hf))
  clear hb1 I0
  rcases hor with ⟨rfl, hall⟩ | ⟨k0, rfl, hk0, h1, h2⟩
  · have HA := Lib.hid (show R.filter (longB j) = R from List.filter_eq_self.2 hall)
    clear hall
    go_wp2
    go_ret
    refine ⟨_, rfl, ?_, B1.out⟩
    rw [HA.out, HN.out]
    exact O1.out
  · have D0 := Lib.hid (del_start hk0 h1 h2)
    have hk0' : k0 < n := by rw [HN.out] at hk0; exact hk0
    clear hk0 h1 h2
    have t0 : ((k0 : Int) == -1) = false := by
      rw [beq_eq_false_iff_ne]
      omega
    obtain ⟨b, c', ev, hBb, _, _⟩ := own_some O1.out (by omega)
    cases ev
    have HBb := Lib.hid hBb
    clear hBb
    go_wp2
    go_loopw [5, 6] (fun vi vk wr => ∃ (i k : Nat) (X : List Ru), vi = .int .i64 i ∧ vk = .int .i64 k ∧ i < k ∧ k ≤ n ∧ Hid (DelI R j i k X) ∧ Hid (wr.ownsRow B 50 2 (.slice (some ⟨b, 0, none⟩) n c) n (X.flatMap ucells)) ∧ Hid (Below B w wr)) (fun _ vk _ => n - (intOf vk).toNat)
    case atStart => exact ⟨k0, k0 + 1, R, rfl, by go_num, by omega, by omega, D0, O1, B1⟩
    case round =>
      obtain ⟨i, k, X, rfl, rfl, hik, hk, HD, HX, HB⟩ := hrel
      by_cases hlt : k < n
      · obtain ⟨r, hr⟩ : ∃ r, R[k]? = some r := ⟨_, List.getElem?_eq_getElem (by rw [HN.out]; exact hlt)⟩
        have hx := del_at HD.out hr
        have hXl : X.length = n := HD.out.len.trans HN.out
        have e0 : wr.cell? ⟨b, k * 2, none⟩ = some (.int .i64 r.a) := row_cell ucells_len HX.out hXl hx (i := 0) (by decide)
        have e1 : wr.cell? ⟨b, k * 2 + 1, none⟩ = some (.int .i64 r.b) := row_cell ucells_len HX.out hXl hx (i := 1) (by decide)
        have hk3 : (k : Int) < (n : Int) := by omega
        have HK := Lib.hid hr
        have HXL := Lib.hid hXl
        clear hr hx hXl
        have hsz := HB.out.size
        have HX4 := Lib.hid (HX.out.alloc (.cells #[.int .i64 r.a, .int .i64 r.b] 50))
        have B4 := Lib.hid (HB.out.alloc (Nat.le_trans HBS.out HB.out.size) (.cells #[.int .i64 r.a, .int .i64 r.b] 50))
        have Y4 := Lib.hid (Lies.new wr 50 #[.int .i64 r.a, .int .i64 r.b])
        go_wp2_with fail
        generalize wr.alloc (.cells #[.int .i64 r.a, .int .i64 r.b] 50) = w4 at *
        have C := Lib.hid (short_any r j g w4 ((B4.out.cell (p := ⟨g, 0, none⟩) HG.out).trans HJ.out) (Nat.lt_of_lt_of_le (Nat.lt_of_lt_of_le HG.out HBS.out) B4.out.size) (HR.out r (List.mem_of_getElem? HK.out)))
        clear e0 e1
        refine C.out.mono ?_
        rintro e w5 ⟨rfl, hb5⟩
        have HX5 : Hid (w5.ownsRow B 50 2 (.slice (some ⟨b, 0, none⟩) n c) n (X.flatMap ucells)) := Lib.hid (own_turn HX4.out (Turn.of_below (S := fun _ => False) hb5) (fun _ _ hf => hf))
        have B5 := Lib.hid (B4.out.trans (hb5.mono (Nat.le_trans HBS.out B4.out.size)))
        have Y5 := Lib.hid (Y4.out.below hb5 Y4.out.lt)
        clear hb5 HX4 B4 Y4 C
        rcases hl : longB j r with _ | _
        · have HD2 := Lib.hid (del_skip HD.out HK.out hl)
          clear hl
          go_wp2
          go_roundw
          case rel => exact ⟨i, k + 1, X, rfl, by go_num, by omega, by omega, HD2, HX5, B5⟩
          case measure => simp [intOf]; omega
        · have HD2 := Lib.hid (del_keep HD.out HK.out hl)
          clear hl
          obtain ⟨xi, hxi⟩ : ∃ xi, X[i]? = some xi := ⟨_, List.getElem?_eq_getElem (by rw [HXL.out]; omega)⟩
          have y0 : w5.cell? ⟨wr.heap.size, 0, none⟩ = some (.int .i64 r.a) := Y5.out.cell 0
          have y1 : w5.cell? ⟨wr.heap.size, 1, none⟩ = some (.int .i64 r.b) := Y5.out.cell 1
          have x0 : w5.cell? ⟨b, i * 2, none⟩ = some (.int .i64 xi.a) := row_cell ucells_len HX5.out HXL.out hxi (i := 0) (by decide)
          have x1 : w5.cell? ⟨b, i * 2 + 1, none⟩ = some (.int .i64 xi.b) := row_cell ucells_len HX5.out HXL.out hxi (i := 1) (by decide)
          have f0 := HX5.out.frozenAt (i * 2)
          have f1 := HX5.out.frozenAt (i * 2 + 1)
          have h1 := row_store ucells_len HX5.out hxi (x' := (⟨r.a, xi.b⟩ : Ru)) (i := 0) (by decide) (u := .int .i64 r.a) rfl
          have h2 := row_store ucells_len h1 (j := i) (x := (⟨r.a, xi.b⟩ : Ru)) (by rw [List.getElem?_set_self (by rw [HXL.out]; omega)]) (x' := r) (i := 1) (by decide) (u := .int .i64 r.b) rfl
          have HX6 : Hid (((w5.setCell ⟨b, i * 2, none⟩ (.int .i64 r.a)).setCell ⟨b, i * 2 + 1, none⟩ (.int .i64 r.b)).ownsRow B 50 2 (.slice (some ⟨b, 0, none⟩) n c) n ((X.set i r).flatMap ucells)) := Lib.hid (by
            rw [List.set_set] at h2
            exact h2)
          have B6 := Lib.hid ((B5.out.setCell (p := ⟨b, i * 2, none⟩) HBb.out (.int .i64 r.a)).setCell (p := ⟨b, i * 2 + 1, none⟩) HBb.out (.int .i64 r.b))
          have hi3 : (i : Int) < (n : Int) := by omega
          clear h1 h2 hxi
          go_wp2
          go_roundw
          case rel => exact ⟨i + 1, k + 1, X.set i r, by go_num, by go_num, by omega, by omega, HD2, HX6, B6⟩
          case measure => simp [intOf]; omega
      · obtain rfl : k = n := by omega
        have HE := Lib.hid (del_end HD.out (by rw [HN.out]; exact Nat.le_refl _))
        obtain ⟨cur, hl, hBb, hnc2, hcm, hcs, htk, _⟩ := lies_own HX.out
        have HL := Lib.hid hl
        have HCS := Lib.hid hcs
        have HTK := Lib.hid htk
        clear hl hcs htk hBb
        have hik2 : (i : Int) < (k : Int) := by omega
        have hic : i < c := by omega
        have hcl : ∀ ty, (Builtin.clear_ #[37] ty #[.slice (some ⟨b, i * 2, none⟩) (k - i) (c - i)]).run Try.prog wr = .ok (.tuple #[]) (wr.setRow b (spl cur (i * 2) (Builtin.zeroCells #[.int .i64 0, .int .i64 0] (k - i)).toList)) := fun ty =>
          run_clear_lies wr 37 ty 50 (.agg #[.int .i64 0, .int .i64 0]) b (i * 2) (k - i) (c - i) cur 50 (by omega) Try.underlying37 zeroR HL.out (by rw [HCS.out]; simp only [Value.cells, List.size_toArray, List.length_cons, List.length_nil]; omega) (by
            intro v hv
            simp only [Value.cells, Builtin.zeroCells, Array.toList_map, List.mem_map] at hv
            obtain ⟨a, _, rfl⟩ := hv
            simp only [List.size_toArray, List.length_cons, List.length_nil]
            rcases Nat.mod_two_eq_zero_or_one a with h | h <;> rw [h] <;> rfl)
        have HF := Lib.hid (congrArg List.length HE.out)
        have hXl : X.length = k := HD.out.len.trans HN.out
        have HXL := Lib.hid hXl
        clear hXl
        go_wp2_with fail
        go_ret
        have hil : i = (R.filter (longB j)).length := by
          rw [← HF.out, List.length_take, HXL.out]
          omega
        refine ⟨_, rfl, ?_, below_row HB.out HBb.out _⟩
        rw [← hil]
        refine own_lies (lies_setRow HL.out _) HBb.out (by omega) hcm (by rw [spl_size _ _ _ (by rw [zero_len, HCS.out]; simp only [List.size_toArray, List.length_cons, List.length_nil]; omega)]; exact HCS.out) ?_
        have h1 : ((X.take i).flatMap ucells).length = i * 2 := by rw [flat_len ucells_len, List.length_take, HXL.out, Nat.min_eq_left (by omega)]
        have h2 : cur.toList.take (i * 2) = (X.take i).flatMap ucells := by
          have h3 : (cur.toList.take (k * 2)).take (i * 2) = cur.toList.take (i * 2) := by rw [List.take_take, Nat.min_eq_left (by omega)]
          rw [← h3, HTK.out]
          have h4 : X.flatMap ucells = (X.take i).flatMap ucells ++ (X.drop i).flatMap ucells := by rw [← List.flatMap_append, List.take_append_drop]
          rw [h4, ← h1, List.take_left]
        rw [← HE.out, ← h2]
        simp only [spl, List.append_assoc]
        rw [List.take_append_of_le_length (by rw [List.length_take, Array.length_toList, HCS.out]; omega), List.take_take, Nat.min_self]
/-- How Alarms ends. -/
def AlarmEnd (S : List Rd) (j now : Int) (w : World) (e : Ending) (w' : World) : Prop :=
  ∃ v R, e = .returned v ∧ RunsOf (opn S) (min now 1048576) R ∧ R.length ≤ 1048576 ∧ w'.ownsRow w.heap.size 50 2 v (R.filter (longB j)).length ((R.filter (longB j)).flatMap ucells) ∧ Below w.heap.size w w'
set_option maxRecDepth 100000 in
set_option maxHeartbeats 4000000 in
theorem palarms_any (B h : Nat) (F : Nat → Prop) (S : List Rd) (j now : Int) (w : World) (hp : PDoor w B h F S) (hS : Good S) (hL : S.length ≤ 1000) :
    Calls Try.prog 15 #[.pointer (some ⟨h, 0, none⟩), .int .i64 j, .int .i64 now] w (AlarmEnd S j now w) := by
  have B0 := Lib.hid (alloc_below w (.cells #[.int .i64 j] 3))
  have P0 := Lib.hid (pdoor_turn hp (T := fun _ => False) (Turn.of_below B0.out) (fun _ _ hf => hf))
  have X0 := Lib.hid (Lies.new w 3 #[.int .i64 j])
  have hs1 : (w.alloc (.cells #[.int .i64 j] 3)).heap.size = w.heap.size + 1 := by simp
  have HS1 := Lib.hid hs1
  have A0 := Lib.hid (pruns_any B h F S now _ P0.out hS hL)
  clear hs1 hp
  go_enter Try.func15, Try.ntmps15
  go_wp2_with fail
  generalize w.alloc (.cells #[.int .i64 j] 3) = w1 at *
  refine A0.out.mono ?_
  rintro e w2 ⟨v, R, rfl, hr, hl, ho, hb⟩
  have D0 := Lib.hid (pdel_any w1.heap.size v R j w.heap.size w2 ho hb.size hl ((X0.out.below hb X0.out.lt).cell 0) (by have := HS1.out; omega) (fun r hr' => by
    have := hr.each r hr'
    unfold okR
    omega))
  have HR := Lib.hid hr
  have BB := Lib.hid hb
  have HL := Lib.hid hl
  clear hr hl ho hb A0
  go_wp2_with fail
  refine D0.out.mono ?_
  rintro e w3 ⟨v3, rfl, ho3, hb3⟩
  have O3 := Lib.hid ho3
  have B3 := Lib.hid hb3
  clear ho3 hb3 D0
  go_wp2
  go_ret
  exact ⟨v3, R, rfl, HR.out, HL.out, own_base O3.out B0.out.size, B0.out.trans ((BB.out.trans B3.out).mono B0.out.size)⟩
theorem pdel_zero (p : Option Addr) (c : Nat) (j : Int) (g : Nat) (w : World) (hj : w.cell? ⟨g, 0, none⟩ = some (.int .i64 j)) (hg : g < w.heap.size) :
    Calls Try.prog 27 #[.slice p 0 c, .func (.func 28) #[] #[.pointer (some ⟨g, 0, none⟩)]] w fun e w' => e = .returned (.slice p 0 c) ∧ Below w.heap.size w w' := by
  have I0 := Lib.hid (pidx_any p 0 c [] j g w (rw_zero w p) (by decide) hj hg (fun r hr => by cases hr))
  clear hj hg
  go_enter Try.func27, Try.ntmps27
  go_wp2_with fail
  refine I0.out.mono ?_
  rintro e w1 ⟨i0, rfl, hb1, hor⟩
  rcases hor with ⟨rfl, _⟩ | ⟨k0, _, hk0, _⟩
  · go_wp2
    go_ret
    exact ⟨rfl, hb1⟩
  · cases hk0
theorem palarms_nil (j now : Int) (w : World) : Calls Try.prog 15 #[.pointer none, .int .i64 j, .int .i64 now] w fun e w' => ∃ p c, e = .returned (.slice p 0 c) ∧ Below w.heap.size w w' := by
  have B0 := Lib.hid (alloc_below w (.cells #[.int .i64 j] 3))
  have X0 := Lib.hid (Lies.new w 3 #[.int .i64 j])
  have A0 := Lib.hid (fun W => pruns_nil now W)
  go_enter Try.func15, Try.ntmps15
  go_wp2_with fail
  generalize w.alloc (.cells #[.int .i64 j] 3) = w1 at *
  refine (A0.out _).mono ?_
  rintro e w2 ⟨p, c, rfl, hb⟩
  have D0 := Lib.hid (pdel_zero p c j w.heap.size w2 ((X0.out.below hb X0.out.lt).cell 0) (Nat.lt_of_lt_of_le X0.out.lt hb.size))
  have BB := Lib.hid hb
  clear hb A0
  go_wp2_with fail
  refine D0.out.mono ?_
  rintro e w3 ⟨rfl, hb3⟩
  have B3 := Lib.hid hb3
  clear hb3 D0
  go_wp2
  go_ret
  exact ⟨p, c, rfl, B0.out.trans ((BB.out.trans (B3.out.mono BB.out.size)).mono B0.out.size)⟩
end Dr
end Go.Proofs.Ytfdakkghikimcaa
