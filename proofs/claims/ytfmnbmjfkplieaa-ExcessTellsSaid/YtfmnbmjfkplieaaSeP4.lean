/- Walks over package series: how many are not above a minute, silence, the air, Next. Conditions: a series in order. -/
import Derived.Test.YtfmnbmjfkplieaaSeP3
import Derived.Test.YtfmnbmjfkplieaaSePn
import Derived.Test.YtfmnbmjfkplieaaSeSil
namespace Go.Proofs.Ytfmnbmjfkplieaa
open Go.RowKit

theorem enter_of {P : Program} {f : FuncId} {fn : Func} (hf : P.funcs[f]? = some fn) (hn : (fn.name == "runtime.NumGoroutine") = false) (hb : fn.body.isSome = true) (args : Array Value) (w : World) : (callFunc f args).run P w = .ok (.enter f args) w := by
  have h1 : fn.name ≠ "runtime.NumGoroutine" := by simpa using hn
  obtain ⟨c, hc⟩ := Option.isSome_iff_exists.1 hb
  simp [callFunc, hf, h1, hc]
namespace Se
theorem enter_up : ∀ args w, (callFunc 64 args).run Try.prog w = .ok (.enter 64 args) w :=
  fun args w => enter_of Try.func64 (by kernel_rfl) (by kernel_rfl) args w
theorem enter_put : ∀ args w, (callFunc 40 args).run Try.prog w = .ok (.enter 40 args) w :=
  fun args w => enter_of Try.func40 (by kernel_rfl) (by kernel_rfl) args w
theorem sides_up (S : List Rd) (hs : Sorted S) (m : Int) : Sides S (upS m) := by
  intro i j x y hij hx hy
  have := sorted_at hs hx hy hij
  unfold lt at this
  unfold upS
  constructor
  · intro h
    split at h
    · rw [if_pos (by omega)]
      omega
    · omega
  · intro h
    split at h
    · omega
    · rw [if_neg (by omega)]
      omega
def UptoEnd (S : List Rd) (m : Int) (w : World) (e : Ending) (w' : World) : Prop := ∃ n : Nat, Upto S m n ∧ e = .returned (.int .i64 (n : Int)) ∧ Below w.heap.size w w'
theorem upto_of {S : List Rd} {m : Int} {low : Nat} {there : Bool} (h : Placed S (upS m) low there) : Upto S m low := by
  have ht : there = false := by
    cases there with
    | false => rfl
    | true =>
      obtain ⟨x, _, hx⟩ := h.2.1 rfl
      unfold upS at hx
      split at hx <;> omega
  refine ⟨h.1, fun j x hx => ?_⟩
  have := h.2.2 ht j x hx
  unfold upS at this
  split at this <;> omega
set_option maxRecDepth 100000 in
set_option maxHeartbeats 2000000 in
theorem uptoN_any (B h : Nat) (v : Value) (wo ga : Int) (S : List Rd) (m : Int) (w : World) (hp : PSer w B h v wo ga S) (hs : Sorted S) (hL : S.length ≤ 1000000) :
    Calls Try.prog 60 #[.pointer (some ⟨h, 0, none⟩), .int .i64 m] w (UptoEnd S m w) := by
  have B0 := Lib.hid (alloc_below w (.cells #[.int .i64 m] 3))
  have X0 := Lib.hid (Lies.new w 3 #[.int .i64 m])
  have P := Lib.hid (place_any 64 ⟨w.heap.size, 0, none⟩ enter_up B h v wo ga S (upS m) _ (hp.below B0.out) hL (sides_up S hs m) (fun x W hb => up_any m x w.heap.size W ((X0.out.below hb X0.out.lt).cell 0) (X0.out.below hb X0.out.lt).lt))
  clear hp hs hL X0
  go_enter Try.func60, Try.ntmps60
  go_wp2_with fail
  refine P.out.mono ?_
  rintro e w1 ⟨low, there, hP, rfl, hb⟩
  have U := Lib.hid (upto_of hP)
  have B1 := Lib.hid (B0.out.trans (hb.mono B0.out.size))
  clear hP hb P B0
  go_wp2
  go_ret
  exact ⟨low, U.out, rfl, B1.out⟩
/-- Whether it is silent. -/
def silB (ga : Int) (S : List Rd) (m : Int) : Bool := (cnt ga S m).isNone
set_option maxRecDepth 100000 in
set_option maxHeartbeats 2000000 in
theorem silent_any (B h : Nat) (v : Value) (wo ga : Int) (S : List Rd) (m : Int) (n : Nat) (w : World) (hp : PSer w B h v wo ga S) (hs : Sorted S) (hr : ∀ x ∈ S, rightB x = true) (hL : S.length ≤ 1000000) (hu : Upto S m n) (m1 : m ≤ 9223372036854775807) :
    Calls Try.prog 61 #[.pointer (some ⟨h, 0, none⟩), .int .i64 (n : Int), .int .i64 m] w fun e w' => e = .returned (.bool (silB ga S m)) ∧ Below w.heap.size w w' := by
  obtain ⟨q, d, rfl⟩ := own_slice hp.2.2
  have k2 : w.cell? ⟨h, 2, none⟩ = some (.slice q S.length d) := hp.2.1.cell 2
  have k1 : w.cell? ⟨h, 1, none⟩ = some (.int .i64 ga) := hp.2.1.cell 1
  by_cases h0 : n = 0
  · subst h0
    have E := Lib.hid (show silB ga S m = true by unfold silB; rw [upto_none hs hu]; rfl)
    have t0 : (((0 : Nat) : Int) == 0) = true := by decide
    clear hp hs hr hu
    go_enter Try.func61, Try.ntmps61
    go_wp2
    go_quiet (fail)
    go_wp2
    go_ret
    exact ⟨by rw [E.out]; rfl, below_drewN (Below.refl _ _) _⟩
  · obtain ⟨k, hk⟩ : ∃ k, k + 1 = n := ⟨n - 1, by omega⟩
    have hnS : k < S.length := by have := hu.1; omega
    obtain ⟨y, hy⟩ : ∃ y, S[k]? = some y := ⟨_, List.getElem?_eq_getElem hnS⟩
    have hyr := right_of (hr y (List.mem_of_getElem? hy))
    have hym := (hu.2 k y hy).1 (by omega)
    obtain ⟨b, c, e, _, _, hnc⟩ := own_some hp.2.2 (by omega)
    cases e
    have e0 : w.cell? ⟨b, k * 3, none⟩ = some (.int .i64 y.min) := row_cell rcells_len hp.2.2 rfl hy (i := 0) (by decide)
    have E : silB ga S m = decide (ga < m - y.min) := by
      unfold silB
      rw [upto_some hs (by rw [hk]; exact hu) hy]
      by_cases hc : ga < m - y.min
      · rw [if_pos hc, decide_eq_true hc]
        rfl
      · rw [if_neg hc, decide_eq_false hc]
        rfl
    have E' := Lib.hid E
    have t0 : ((n : Int) == 0) = false := by simp; omega
    have q1 : IntKind.i64.wrap ((n : Int) - 1) = (k : Int) := by rw [IntWalk.i64_in _ (by omega)]; omega
    have hlt : (k : Int) < (S.length : Int) := by omega
    have q2 : IntKind.i64.wrap (m - y.min) = m - y.min := IntWalk.i64_in _ (by omega)
    clear hp hs hr hu hy hyr hym E hk
    generalize y.min = ym at *
    go_enter Try.func61, Try.ntmps61
    go_wp2
    go_quiet (fail)
    go_wp2
    go_ret
    exact ⟨by rw [E'.out]; rfl, below_drewN (Below.refl _ _) _⟩
set_option maxRecDepth 100000 in
set_option maxHeartbeats 2000000 in
theorem pat_any (B h : Nat) (v : Value) (wo ga : Int) (S : List Rd) (m : Int) (w : World) (hp : PSer w B h v wo ga S) (hs : Sorted S) (hr : ∀ x ∈ S, rightB x = true) (hL : S.length ≤ 1000000) (m1 : m ≤ 9223372036854775807) :
    Calls Try.prog 53 #[.pointer (some ⟨h, 0, none⟩), .int .i64 m] w fun e w' => e = .returned (.int .i64 (air wo ga S m)) ∧ Below w.heap.size w w' := by
  have HU := Lib.hid (uptoN_any B h v wo ga S m w hp hs hL)
  have HP := Lib.hid hp
  have HS := Lib.hid hs
  have HR := Lib.hid hr
  have E0 := Lib.hid (fun (hb : silB ga S m = true) => show air wo ga S m = wo by
    unfold silB at hb
    unfold air
    rw [Option.isNone_iff_eq_none.1 hb])
  clear hp hs hr
  go_enter Try.func53, Try.ntmps53
  go_wp2_with fail
  refine HU.out.mono ?_
  rintro e w1 ⟨n, hu, rfl, hb⟩
  have U := Lib.hid hu
  have B1 := Lib.hid hb
  clear hu hb HU
  go_wp2_with fail
  refine (silent_any B h v wo ga S m n w1 (HP.out.below B1.out) HS.out HR.out hL U.out m1).mono ?_
  rintro e w2 ⟨rfl, hb⟩
  have B2 := Lib.hid (then_ B1.out hb)
  have P2 := Lib.hid (HP.out.below B2.out)
  clear hb B1 HP
  cases hsil : silB ga S m with
  | true =>
    have E := Lib.hid (E0.out hsil)
    have k0 : w2.cell? ⟨h, 0, none⟩ = some (.int .i64 wo) := P2.out.2.1.cell 0
    clear hsil E0
    go_wp2
    go_ret
    exact ⟨by rw [E.out]; rfl, B2.out⟩
  | false =>
    have hn0 : n ≠ 0 := fun hn => by
      subst hn
      unfold silB at hsil
      rw [upto_none HS.out U.out] at hsil
      cases hsil
    obtain ⟨k, hk⟩ : ∃ k, k + 1 = n := ⟨n - 1, by omega⟩
    have hnS : k < S.length := by have := U.out.1; omega
    obtain ⟨y, hy⟩ : ∃ y, S[k]? = some y := ⟨_, List.getElem?_eq_getElem hnS⟩
    obtain ⟨q, d, rfl⟩ := own_slice P2.out.2.2
    obtain ⟨b, c, e, _, _, hnc⟩ := own_some P2.out.2.2 (by omega)
    cases e
    have k2 : w2.cell? ⟨h, 2, none⟩ = some (.slice (some ⟨b, 0, none⟩) S.length d) := P2.out.2.1.cell 2
    have e2 : w2.cell? ⟨b, k * 3 + 2, none⟩ = some (.int .i64 y.ten) := row_cell rcells_len P2.out.2.2 rfl hy (i := 2) (by decide)
    have E : air wo ga S m = y.ten := by
      have hc := upto_some HS.out (by rw [hk]; exact U.out) hy ga
      unfold silB at hsil
      rw [hc] at hsil
      split at hsil
      · cases hsil
      · rename_i hg
        unfold air
        rw [hc, if_neg hg]
    have E' := Lib.hid E
    have hlt : (k : Int) < (S.length : Int) := by omega
    have q0 : (n : Int) - 1 = (k : Int) := by omega
    have hnb : (n : Int) ≤ 1000000 := by have := U.out.1; omega
    have hn1 : 1 ≤ (n : Int) := by omega
    clear hsil E E0 U hy hk hn0 HS HR P2
    generalize y.ten = yt at *
    go_wp2
    go_ret
    exact ⟨by rw [E'.out]; rfl, B2.out⟩
end Se
end Go.Proofs.Ytfmnbmjfkplieaa
