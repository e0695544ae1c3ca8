/- The walk over package series' place: where a reading stands, or would. Conditions: a series in order; what is asked of each reading is answered so. Walks over package series: how many are not above a minute, silence, the air, Next. Conditions: a series in order. The walk over package series' Next. Conditions: a series in order. Walks over package series' New, All, Clone, Put. Conditions: a series in order. The walk over package series' Put. Conditions: a series in order. What layer 6's laws lean on of package series, as it is: one value of the bundle. No condition but those written. What layer 7's laws lean on of package excess: a bundle of contracts, whatever the package is like inside. No condition but those written. Package ledger's zones in memory: each with a series, and indexes by their limits. No condition but those written. -/
import Derived.Test.YtehiclmkdpcplaaQ05
import Derived.Deep.LoopGhost
import Derived.WalkMore
import Derived.Test.YtehiclmkdpcplaaQ02
import Derived.Deep.RegionHeld3
import Derived.Deep.AppendLies
namespace Go.Proofs.Ytehiclmkdpcplaa
open Go.RowKit

namespace Se
/-- A series. -/
def PSer (w : World) (B h : Nat) (v : Value) (wo ga : Int) (S : List Rd) : Prop :=
  B ≤ h ∧ Lies w h 91 #[.int .i64 wo, .int .i64 ga, v] ∧ w.ownsRow B 37 3 v S.length (S.flatMap rcells)
theorem PSer.turn {w w' : World} {B h : Nat} {v : Value} {wo ga : Int} {S : List Rd} {T : Nat → Prop} (hp : PSer w B h v wo ga S) (ht : Turn T w w') (hs : ∀ k, Feet h v k → ¬ T k) : PSer w' B h v wo ga S :=
  ⟨hp.1, hp.2.1.turn ht (hs h (.inl rfl)), own_turn hp.2.2 ht (fun k hk => hs k (.inr hk))⟩
theorem PSer.foot {w : World} {B h : Nat} {v : Value} {wo ga : Int} {S : List Rd} (hp : PSer w B h v wo ga S) {k : Nat} (hk : Feet h v k) : B ≤ k ∧ k < w.heap.size := by
  rcases hk with rfl | hk
  · exact ⟨hp.1, hp.2.1.lt⟩
  · exact own_lt hp.2.2 hk
theorem PSer.below {w w' : World} {B h : Nat} {v : Value} {wo ga : Int} {S : List Rd} (hp : PSer w B h v wo ga S) (hb : Below w.heap.size w w') : PSer w' B h v wo ga S :=
  hp.turn (T := fun _ => False) (Turn.of_below hb) (fun _ _ hf => hf)
/-- On which sides readings in order may be. -/
def Sides (S : List Rd) (f : Rd → Int) : Prop := ∀ (i j : Nat) (x y : Rd), i < j → S[i]? = some x → S[j]? = some y → (f y ≤ 0 → f x < 0) ∧ (0 ≤ f x → 0 < f y)
/-- Where one stands, or would. -/
def Placed (S : List Rd) (f : Rd → Int) (low : Nat) (there : Bool) : Prop :=
  low ≤ S.length ∧ (there = true → ∃ x, S[low]? = some x ∧ f x = 0) ∧ (there = false → ∀ j x, S[j]? = some x → (j < low → f x < 0) ∧ (low ≤ j → 0 < f x))
def PlaceEnd (S : List Rd) (f : Rd → Int) (w : World) (e : Ending) (w' : World) : Prop := ∃ low there, Placed S f low there ∧ e = .returned (.tuple #[.int .i64 ((low : Nat) : Int), .bool there]) ∧ Below w.heap.size w w'
set_option maxRecDepth 100000 in
set_option maxHeartbeats 4000000 in
theorem place_any (g : Nat) (p : Addr) (eg : ∀ args w, (callFunc g args).run Try.prog w = .ok (.enter g args) w) (B h : Nat) (v : Value) (wo ga : Int) (S : List Rd) (f : Rd → Int) (w : World) (hp : PSer w B h v wo ga S) (hL : S.length ≤ 1000000) (hS : Sides S f)
    (hf : ∀ x W, Below w.heap.size w W → Calls Try.prog g #[rval x, .pointer (some p)] W fun e w' => e = .returned (.int .i64 (f x)) ∧ Below W.heap.size W w') :
    Calls Try.prog 58 #[.pointer (some ⟨h, 0, none⟩), .func (.func g) #[] #[.pointer (some p)]] w (PlaceEnd S f w) := by
  obtain ⟨q, d, rfl⟩ := own_slice hp.2.2
  have HP := Lib.hid hp
  have HF := Lib.hid hf
  have c2 : w.cell? ⟨h, 2, none⟩ = some (.slice q S.length d) := hp.2.1.cell 2
  have hL' : (S.length : Int) ≤ 1000000 := by omega
  clear hp hf
  go_enter Try.func58, Try.ntmps58
  go_wp2
  go_step3
  go_wp2
  go_quiet (fail)
  go_wp2
  go_step3
  go_wp2
  go_loopw [6, 7, 8] (fun vl vh vt wr => ∃ (lo hi : Nat), lo ≤ hi ∧ hi ≤ S.length ∧ vl = .int .i64 lo ∧ vh = .int .i64 hi ∧ vt = .bool false ∧ Hid (∀ j x, S[j]? = some x → (j < lo → f x < 0) ∧ (hi ≤ j → 0 < f x)) ∧ Hid (Below w.heap.size w wr)) (fun vl vh _ _ => ((RowKit.intOf vh) - (RowKit.intOf vl)).toNat)
  case atStart => exact ⟨0, S.length, Nat.zero_le _, Nat.le_refl _, rfl, rfl, rfl, Lib.hid (fun j x hx => ⟨fun h0 => by omega, fun h0 => by have := (List.getElem?_eq_some_iff.1 hx).1; omega⟩), Lib.hid (below_drewN (Below.refl _ _) _)⟩
  case round =>
    obtain ⟨lo, hi, hlh, hhn, rfl, rfl, rfl, HI, HB⟩ := hrel
    have hhn' : (hi : Int) ≤ (S.length : Int) := by omega
    by_cases hlt : lo < hi
    · have hlt' : (lo : Int) < (hi : Int) := by omega
      obtain ⟨m, hm, hm1, hm2⟩ : ∃ m : Nat, ((lo : Int) + (hi : Int)) / 2 = (m : Int) ∧ lo ≤ m ∧ m < hi := ⟨(lo + hi) / 2, by omega, by omega, by omega⟩
      have hms : (m : Int) < (S.length : Int) := by omega
      obtain ⟨x, hx⟩ : ∃ x, S[m]? = some x := ⟨_, List.getElem?_eq_getElem (by omega)⟩
      have H1 := HP.out.below HB.out
      obtain ⟨b, c, e, hBb, hbl, hnc⟩ := own_some H1.2.2 (by omega)
      cases e
      have k2 : wr.cell? ⟨h, 2, none⟩ = some (.slice (some ⟨b, 0, none⟩) S.length d) := H1.2.1.cell 2
      have e0 : wr.cell? ⟨b, m * 3, none⟩ = some (.int .i64 x.min) := row_cell rcells_len H1.2.2 rfl hx (i := 0) (by decide)
      have e1 : wr.cell? ⟨b, m * 3 + 1, none⟩ = some (.int .i64 x.seq) := row_cell rcells_len H1.2.2 rfl hx (i := 1) (by decide)
      have e2 : wr.cell? ⟨b, m * 3 + 2, none⟩ = some (.int .i64 x.ten) := row_cell rcells_len H1.2.2 rfl hx (i := 2) (by decide)
      have HX := Lib.hid hx
      have C := Lib.hid (HF.out x wr HB.out)
      unfold rval at C
      clear hx H1
      go_wp2_with fail
      refine C.out.mono ?_
      rintro e w2 ⟨rfl, hb⟩
      have HB2 := Lib.hid (HB.out.trans (hb.mono HB.out.size))
      clear hb C HB k2 e0 e1 e2
      have HS := Lib.hid (fun j y hy (hj : j < m) => hS j m y x hj hy HX.out)
      have HS2 := Lib.hid (fun j y hy (hj : m < j) => hS m j x y hj HX.out hy)
      rcases Int.lt_trichotomy (f x) 0 with h0 | h0 | h0
      · have t0 : decide (f x < 0) = true := by simpa using h0
        have HI2 := Lib.hid (show ∀ j y, S[j]? = some y → (j < m + 1 → f y < 0) ∧ (hi ≤ j → 0 < f y) from fun j y hy => ⟨fun hj => by
          by_cases hjm : j < m
          · exact (HS.out j y hy hjm).1 (by omega)
          · obtain rfl : j = m := by omega
            have := HX.out
            rw [this] at hy
            cases hy
            exact h0, (HI.out j y hy).2⟩)
        clear h0 HS HS2 HI
        generalize f x = z at *
        go_wp2
        go_roundw
        case rel => exact ⟨m + 1, hi, by omega, hhn, by go_num, rfl, rfl, HI2, HB2⟩
        case measure => simp [RowKit.intOf]; omega
      · have t0 : decide (f x < 0) = false := by simp; omega
        have t1 : decide (0 < f x) = false := by simp; omega
        have PE := Lib.hid (show Placed S f m true from ⟨by omega, fun _ => ⟨x, HX.out, h0⟩, by simp⟩)
        clear h0 HS HS2 HI
        generalize f x = z at *
        go_wp2
        try rw [Exit.noGoto_ret]
        go_ret2
        exact ⟨m, true, PE.out, rfl, HB2.out⟩
      · have t0 : decide (f x < 0) = false := by simp; omega
        have t1 : decide (0 < f x) = true := by simpa using h0
        have HI2 := Lib.hid (show ∀ j y, S[j]? = some y → (j < lo → f y < 0) ∧ (m ≤ j → 0 < f y) from fun j y hy => ⟨(HI.out j y hy).1, fun hj => by
          by_cases hjm : m < j
          · exact (HS2.out j y hy hjm).2 (by omega)
          · obtain rfl : j = m := by omega
            have := HX.out
            rw [this] at hy
            cases hy
            exact h0⟩)
        clear h0 HS HS2 HI
        generalize f x = z at *
        go_wp2
        go_roundw
        case rel => exact ⟨lo, m, by omega, by omega, rfl, rfl, rfl, HI2, HB2⟩
        case measure => simp [RowKit.intOf]; omega
    · obtain rfl : lo = hi := by omega
      have PE := Lib.hid (show Placed S f lo false from ⟨hhn, by simp, fun _ => HI.out⟩)
      clear HI
      go_wp2
      try rw [Exit.noGoto_ret]
      go_ret2
      exact ⟨lo, false, PE.out, rfl, HB.out⟩
end Se
end Go.Proofs.Ytehiclmkdpcplaa

namespace Go.Proofs.Ytehiclmkdpcplaa
open Go.RowKit

theorem enter_of {P : Program} {f : FuncId} {fn : Func} (hf : P.funcs[f]? = some fn) (hn : (fn.name == "runtime.NumGoroutine") = false) (hb : fn.body.isSome = true) (args : Array Value) (w : World) : (callFunc f args).run P w = .ok (.enter f args) w := by
  have h1 : fn.name ≠ "runtime.NumGoroutine" := by simpa using hn
  obtain ⟨c, hc⟩ := Option.isSome_iff_exists.1 hb
  simp [callFunc, hf, h1, hc]
namespace Se
theorem enter_up : ∀ args w, (callFunc 68 args).run Try.prog w = .ok (.enter 68 args) w :=
  fun args w => enter_of Try.func68 (by kernel_rfl) (by kernel_rfl) args w
theorem enter_put : ∀ args w, (callFunc 59 args).run Try.prog w = .ok (.enter 59 args) w :=
  fun args w => enter_of Try.func59 (by kernel_rfl) (by kernel_rfl) args w
theorem sides_up (S : List Rd) (hs : Sorted S) (m : Int) : Sides S (upS m) := by
  intro i j x y hij hx hy
  have := sorted_at hs hx hy hij
  unfold lt at this
  unfold upS
  constructor
  · intro h
    split at h
    · rw [if_pos (by omega)]
      omega
    · omega
  · intro h
    split at h
    · omega
    · rw [if_neg (by omega)]
      omega
def UptoEnd (S : List Rd) (m : Int) (w : World) (e : Ending) (w' : World) : Prop := ∃ n : Nat, Upto S m n ∧ e = .returned (.int .i64 (n : Int)) ∧ Below w.heap.size w w'
theorem upto_of {S : List Rd} {m : Int} {low : Nat} {there : Bool} (h : Placed S (upS m) low there) : Upto S m low := by
  have ht : there = false := by
    cases there with
    | false => rfl
    | true =>
      obtain ⟨x, _, hx⟩ := h.2.1 rfl
      unfold upS at hx
      split at hx <;> omega
  refine ⟨h.1, fun j x hx => ?_⟩
  have := h.2.2 ht j x hx
  unfold upS at this
  split at this <;> omega
set_option maxRecDepth 100000 in
set_option maxHeartbeats 2000000 in
theorem uptoN_any (B h : Nat) (v : Value) (wo ga : Int) (S : List Rd) (m : Int) (w : World) (hp : PSer w B h v wo ga S) (hs : Sorted S) (hL : S.length ≤ 1000000) :
    Calls Try.prog 50 #[.pointer (some ⟨h, 0, none⟩), .int .i64 m] w (UptoEnd S m w) := by
  have B0 := Lib.hid (alloc_below w (.cells #[.int .i64 m] 3))
  have X0 := Lib.hid (Lies.new w 3 #[.int .i64 m])
  have P := Lib.hid (place_any 68 ⟨w.heap.size, 0, none⟩ enter_up B h v wo ga S (upS m) _ (hp.below B0.out) hL (sides_up S hs m) (fun x W hb => up_any m x w.heap.size W ((X0.out.below hb X0.out.lt).cell 0) (X0.out.below hb X0.out.lt).lt))
  clear hp hs hL X0
  go_enter Try.func50, Try.ntmps50
  go_wp2_with fail
  refine P.out.mono ?_
  rintro e w1 ⟨low, there, hP, rfl, hb⟩
  have U := Lib.hid (upto_of hP)
  have B1 := Lib.hid (B0.out.trans (hb.mono B0.out.size))
  clear hP hb P B0
  go_wp2
  go_ret
  exact ⟨low, U.out, rfl, B1.out⟩
/-- Whether it is silent. -/
def silB (ga : Int) (S : List Rd) (m : Int) : Bool := (cnt ga S m).isNone
set_option maxRecDepth 100000 in
set_option maxHeartbeats 2000000 in
theorem silent_any (B h : Nat) (v : Value) (wo ga : Int) (S : List Rd) (m : Int) (n : Nat) (w : World) (hp : PSer w B h v wo ga S) (hs : Sorted S) (hr : ∀ x ∈ S, rightB x = true) (hL : S.length ≤ 1000000) (hu : Upto S m n) (m1 : m ≤ 9223372036854775807) :
    Calls Try.prog 51 #[.pointer (some ⟨h, 0, none⟩), .int .i64 (n : Int), .int .i64 m] w fun e w' => e = .returned (.bool (silB ga S m)) ∧ Below w.heap.size w w' := by
  obtain ⟨q, d, rfl⟩ := own_slice hp.2.2
  have k2 : w.cell? ⟨h, 2, none⟩ = some (.slice q S.length d) := hp.2.1.cell 2
  have k1 : w.cell? ⟨h, 1, none⟩ = some (.int .i64 ga) := hp.2.1.cell 1
  by_cases h0 : n = 0
  · subst h0
    have E := Lib.hid (show silB ga S m = true by unfold silB; rw [upto_none hs hu]; rfl)
    have t0 : (((0 : Nat) : Int) == 0) = true := by decide
    clear hp hs hr hu
    go_enter Try.func51, Try.ntmps51
    go_wp2
    go_quiet (fail)
    go_wp2
    go_ret
    exact ⟨by rw [E.out]; rfl, below_drewN (Below.refl _ _) _⟩
  · obtain ⟨k, hk⟩ : ∃ k, k + 1 = n := ⟨n - 1, by omega⟩
    have hnS : k < S.length := by have := hu.1; omega
    obtain ⟨y, hy⟩ : ∃ y, S[k]? = some y := ⟨_, List.getElem?_eq_getElem hnS⟩
    have hyr := right_of (hr y (List.mem_of_getElem? hy))
    have hym := (hu.2 k y hy).1 (by omega)
    obtain ⟨b, c, e, _, _, hnc⟩ := own_some hp.2.2 (by omega)
    cases e
    have e0 : w.cell? ⟨b, k * 3, none⟩ = some (.int .i64 y.min) := row_cell rcells_len hp.2.2 rfl hy (i := 0) (by decide)
    have E : silB ga S m = decide (ga < m - y.min) := by
      unfold silB
      rw [upto_some hs (by rw [hk]; exact hu) hy]
      by_cases hc : ga < m - y.min
      · rw [if_pos hc, decide_eq_true hc]
        rfl
      · rw [if_neg hc, decide_eq_false hc]
        rfl
    have E' := Lib.hid E
    have t0 : ((n : Int) == 0) = false := by simp; omega
    have q1 : IntKind.i64.wrap ((n : Int) - 1) = (k : Int) := by rw [IntWalk.i64_in _ (by omega)]; omega
    have hlt : (k : Int) < (S.length : Int) := by omega
    have q2 : IntKind.i64.wrap (m - y.min) = m - y.min := IntWalk.i64_in _ (by omega)
    clear hp hs hr hu hy hyr hym E hk
    generalize y.min = ym at *
    go_enter Try.func51, Try.ntmps51
    go_wp2
    go_quiet (fail)
    go_wp2
    go_ret
    exact ⟨by rw [E'.out]; rfl, below_drewN (Below.refl _ _) _⟩
set_option maxRecDepth 100000 in
set_option maxHeartbeats 2000000 in
theorem pat_any (B h : Nat) (v : Value) (wo ga : Int) (S : List Rd) (m : Int) (w : World) (hp : PSer w B h v wo ga S) (hs : Sorted S) (hr : ∀ x ∈ S, rightB x = true) (hL : S.length ≤ 1000000) (m1 : m ≤ 9223372036854775807) :
    Calls Try.prog 30 #[.pointer (some ⟨h, 0, none⟩), .int .i64 m] w fun e w' => e = .returned (.int .i64 (air wo ga S m)) ∧ Below w.heap.size w w' := by
  have HU := Lib.hid (uptoN_any B h v wo ga S m w hp hs hL)
  have HP := Lib.hid hp
  have HS := Lib.hid hs
  have HR := Lib.hid hr
  have E0 := Lib.hid (fun (hb : silB ga S m = true) => show air wo ga S m = wo by
    unfold silB at hb
    unfold air
    rw [Option.isNone_iff_eq_none.1 hb])
  clear hp hs hr
  go_enter Try.func30, Try.ntmps30
  go_wp2_with fail
  refine HU.out.mono ?_
  rintro e w1 ⟨n, hu, rfl, hb⟩
  have U := Lib.hid hu
  have B1 := Lib.hid hb
  clear hu hb HU
  go_wp2_with fail
  refine (silent_any B h v wo ga S m n w1 (HP.out.below B1.out) HS.out HR.out hL U.out m1).mono ?_
  rintro e w2 ⟨rfl, hb⟩
  have B2 := Lib.hid (then_ B1.out hb)
  have P2 := Lib.hid (HP.out.below B2.out)
  clear hb B1 HP
  cases hsil : silB ga S m with
  | true =>
    have E := Lib.hid (E0.out hsil)
    have k0 : w2.cell? ⟨h, 0, none⟩ = some (.int .i64 wo) := P2.out.2.1.cell 0
    clear hsil E0
    go_wp2
    go_ret
    exact ⟨by rw [E.out]; rfl, B2.out⟩
  | false =>
    have hn0 : n ≠ 0 := fun hn => by
      subst hn
      unfold silB at hsil
      rw [upto_none HS.out U.out] at hsil
      cases hsil
    obtain ⟨k, hk⟩ : ∃ k, k + 1 = n := ⟨n - 1, by omega⟩
    have hnS : k < S.length := by have := U.out.1; omega
    obtain ⟨y, hy⟩ : ∃ y, S[k]? = some y := ⟨_, List.getElem?_eq_getElem hnS⟩
    obtain ⟨q, d, rfl⟩ := own_slice P2.out.2.2
    obtain ⟨b, c, e, _, _, hnc⟩ := own_some P2.out.2.2 (by omega)
    cases e
    have k2 : w2.cell? ⟨h, 2, none⟩ = some (.slice (some ⟨b, 0, none⟩) S.length d) := P2.out.2.1.cell 2
    have e2 : w2.cell? ⟨b, k * 3 + 2, none⟩ = some (.int .i64 y.ten) := row_cell rcells_len P2.out.2.2 rfl hy (i := 2) (by decide)
    have E : air wo ga S m = y.ten := by
      have hc := upto_some HS.out (by rw [hk]; exact U.out) hy ga
      unfold silB at hsil
      rw [hc] at hsil
      split at hsil
      · cases hsil
      · rename_i hg
        unfold air
        rw [hc, if_neg hg]
    have E' := Lib.hid E
    have hlt : (k : Int) < (S.length : Int) := by omega
    have q0 : (n : Int) - 1 = (k : Int) := by omega
    have hnb : (n : Int) ≤ 1000000 := by have := U.out.1; omega
    have hn1 : 1 ≤ (n : Int) := by omega
    clear hsil E E0 U hy hk hn0 HS HR P2
    generalize y.ten = yt at *
    go_wp2
    go_ret
    exact ⟨by rw [E'.out]; rfl, B2.out⟩
end Se
end Go.Proofs.Ytehiclmkdpcplaa

namespace Go.Proofs.Ytehiclmkdpcplaa
open Go.RowKit

namespace Se
/-- The lesser one of a minute when it falls silent and one of a reading; below 0: none. -/
def comb (n l : Int) : Int := if l < 0 then n else if n = -1 ∨ l < n then l else n
theorem comb_neg {l : Int} (h : 0 ≤ l) : comb (-1) l = l := by
  unfold comb
  rw [if_neg (by omega), if_pos (Or.inl rfl)]
theorem next_quiet {ga m : Int} {S : List Rd} (h0 : ∀ x ∈ S, 0 ≤ x.min) (hc : cnt ga S m = none) : next ga S m = comb (-1) (nextL S m) := by
  unfold next
  rw [hc]
  simp only
  rcases nextL_spec S m h0 with ⟨h1, _⟩ | ⟨_, h2, _⟩
  · rw [h1]
    rfl
  · rw [comb_neg h2]
theorem next_loud {ga m : Int} {S : List Rd} {y : Rd} (h0 : 0 ≤ y.min) (hg : 0 ≤ ga) (hc : cnt ga S m = some y) : next ga S m = comb (y.min + ga + 1) (nextL S m) := by
  unfold next comb
  rw [hc]
  simp only
  by_cases h1 : nextL S m < 0
  · rw [if_pos (.inl h1), if_pos h1]
  · rw [if_neg h1]
    by_cases h2 : y.min + ga + 1 < nextL S m
    · rw [if_pos (.inr h2), if_neg (by omega)]
    · rw [if_neg (by omega)]
      by_cases h3 : nextL S m < y.min + ga + 1
      · rw [if_pos (.inr h3)]
      · rw [if_neg (by omega)]
        omega
set_option maxRecDepth 100000 in
set_option maxHeartbeats 8000000 in
theorem pnext_any (B h : Nat) (v : Value) (wo ga : Int) (S : List Rd) (m : Int) (w : World) (hp : PSer w B h v wo ga S) (hs : Sorted S) (hr : ∀ x ∈ S, rightB x = true) (hg : 0 ≤ ga ∧ ga ≤ 1048575) (hL : S.length ≤ 1000000) (m1 : m ≤ 9223372036854775807) :
    Calls Try.prog 84 #[.pointer (some ⟨h, 0, none⟩), .int .i64 m] w fun e w' => e = .returned (.int .i64 (next ga S m)) ∧ Below w.heap.size w w' := by
  have HU := Lib.hid (uptoN_any B h v wo ga S m w hp hs hL)
  have HP := Lib.hid hp
  have HS := Lib.hid hs
  have HR := Lib.hid hr
  have H0 := Lib.hid (show ∀ x ∈ S, 0 ≤ x.min from fun x hx => (right_of (hr x hx)).2.2.1)
  obtain ⟨g0, g1⟩ := hg
  clear hp hs hr
  go_enter Try.func84, Try.ntmps84
  go_wp2_with fail
  refine HU.out.mono ?_
  rintro e w1 ⟨n, hu, rfl, hb⟩
  have U := Lib.hid hu
  have B1 := Lib.hid hb
  clear hu hb HU
  go_wp2_with fail
  refine (silent_any B h v wo ga S m n w1 (HP.out.below B1.out) HS.out HR.out hL U.out m1).mono ?_
  rintro e w2 ⟨rfl, hb⟩
  have B2 := Lib.hid (then_ B1.out hb)
  have P2 := Lib.hid (HP.out.below B2.out)
  have hnS' := U.out.1
  have hnb : (n : Int) ≤ (S.length : Int) := by omega
  have hLb : (S.length : Int) ≤ 1000000 := by omega
  clear hb B1 HP
  obtain ⟨q, d, rfl⟩ := own_slice P2.out.2.2
  cases hsil : silB ga S m with
  | true =>
    have E := next_quiet (ga := ga) (m := m) H0.out (by unfold silB at hsil; exact Option.isNone_iff_eq_none.1 hsil)
    clear hsil
    have UN := Lib.hid (fun y (hy : S[n]? = some y) => upto_next HS.out H0.out U.out hy)
    have UZ := Lib.hid (fun (hn : n = S.length) => upto_last_no (S := S) (m := m) H0.out (by rw [← hn]; exact U.out))
    have d1 : ((-1 : Int) == -1) = true := by decide
    by_cases hlt : n < S.length
    · obtain ⟨z, hz⟩ : ∃ y, S[n]? = some y := ⟨_, List.getElem?_eq_getElem hlt⟩
      have hzr := right_of (HR.out z (List.mem_of_getElem? hz))
      obtain ⟨b, c, e, _, _, hnc⟩ := own_some P2.out.2.2 (by omega)
      cases e
      have k2 : w2.cell? ⟨h, 2, none⟩ = some (.slice (some ⟨b, 0, none⟩) S.length d) := P2.out.2.1.cell 2
      have z0 : w2.cell? ⟨b, n * 3, none⟩ = some (.int .i64 z.min) := row_cell rcells_len P2.out.2.2 rfl hz (i := 0) (by decide)
      have hlt' : (n : Int) < (S.length : Int) := by omega
      have hN := UN.out z hz
      have z00 := hzr.2.2.1
      rw [hN] at E
      clear UN UZ hN hz hzr U P2 HS HR H0
      generalize z.min = zm at *
      have F := Lib.hid (comb_neg z00)
      rw [F.out] at E
      have E' := Lib.hid E
      clear E F
      go_wp2
      go_ret
      exact ⟨by rw [E'.out]; rfl, B2.out⟩
    · have hN := UZ.out (by omega)
      have k2 : w2.cell? ⟨h, 2, none⟩ = some (.slice q S.length d) := P2.out.2.1.cell 2
      have hge : (S.length : Int) ≤ (n : Int) := by omega
      have d2 : decide ((n : Int) < (S.length : Int)) = false := by simp; omega
      rw [hN] at E
      have E' := Lib.hid (E.trans (show comb (-1) (-1) = -1 from rfl))
      clear UN UZ hN U P2 HS HR H0 E
      go_wp2
      go_ret
      exact ⟨by rw [E'.out]; rfl, B2.out⟩
  | false =>
    have hn0 : n ≠ 0 := fun hn => by
      subst hn
      unfold silB at hsil
      rw [upto_none HS.out U.out] at hsil
      cases hsil
    obtain ⟨k, hk⟩ : ∃ k, k + 1 = n := ⟨n - 1, by omega⟩
    obtain ⟨y, hy⟩ : ∃ y, S[k]? = some y := ⟨_, List.getElem?_eq_getElem (show k < S.length by omega)⟩
    have hc : cnt ga S m = some y := by
      have hc := upto_some HS.out (by rw [hk]; exact U.out) hy ga
      unfold silB at hsil
      rw [hc] at hsil ⊢
      split at hsil
      · cases hsil
      · rename_i hg
        rw [if_neg hg]
    have hyr := right_of (HR.out y (List.mem_of_getElem? hy))
    have E := next_loud hyr.2.2.1 g0 hc
    obtain ⟨b, c, e, _, _, hnc⟩ := own_some P2.out.2.2 (by omega)
    cases e
    have k1 : w2.cell? ⟨h, 1, none⟩ = some (.int .i64 ga) := P2.out.2.1.cell 1
    have k2 : w2.cell? ⟨h, 2, none⟩ = some (.slice (some ⟨b, 0, none⟩) S.length d) := P2.out.2.1.cell 2
    have e0 : w2.cell? ⟨b, k * 3, none⟩ = some (.int .i64 y.min) := row_cell rcells_len P2.out.2.2 rfl hy (i := 0) (by decide)
    have q1 : IntKind.i64.wrap ((n : Int) - 1) = (k : Int) := by rw [IntWalk.i64_in _ (by omega)]; omega
    have hkl : (k : Int) < (S.length : Int) := by omega
    have q2 : IntKind.i64.wrap (y.min + ga) = y.min + ga := IntWalk.i64_in _ (by omega)
    have q3 : IntKind.i64.wrap (y.min + ga + 1) = y.min + ga + 1 := IntWalk.i64_in _ (by omega)
    clear hsil hc hy hn0 hk
    generalize y.min = ym at *
    go_wp2_with fail
    go_quiet (fail)
    rename_i nq
    clear e0 k1 k2 q1 q2 q3
    obtain ⟨N0, hN0⟩ : ∃ N0 : Int, ym + ga + 1 = N0 := ⟨_, rfl⟩
    rw [hN0]
    rw [hN0] at E
    have hN1 : N0 ≠ -1 := by omega
    have hN2 : N0 ≤ 9223372036854775807 := by omega
    have B3 := Lib.hid (below_drewN B2.out nq)
    have P3 := Lib.hid (show PSer (w2.drewN nq) B h (.slice (some ⟨b, 0, none⟩) S.length d) wo ga S from P2.out)
    obtain ⟨w3, hw3⟩ : ∃ w3, w2.drewN nq = w3 := ⟨_, rfl⟩
    rw [hw3] at B3 P3
    rw [hw3]
    clear hw3 hN0 hyr P2 B2
    have UN := Lib.hid (fun y (hy : S[n]? = some y) => upto_next HS.out H0.out U.out hy)
    have UZ := Lib.hid (fun (hn : n = S.length) => upto_last_no (S := S) (m := m) H0.out (by rw [← hn]; exact U.out))
    have d1 : (N0 == -1) = false := by simpa using hN1
    have k2 : w3.cell? ⟨h, 2, none⟩ = some (.slice (some ⟨b, 0, none⟩) S.length d) := P3.out.2.1.cell 2
    by_cases hlt : n < S.length
    · obtain ⟨z, hz⟩ : ∃ y, S[n]? = some y := ⟨_, List.getElem?_eq_getElem hlt⟩
      have hzr := right_of (HR.out z (List.mem_of_getElem? hz))
      have z0 : w3.cell? ⟨b, n * 3, none⟩ = some (.int .i64 z.min) := row_cell rcells_len P3.out.2.2 rfl hz (i := 0) (by decide)
      have hlt' : (n : Int) < (S.length : Int) := by omega
      have hN := UN.out z hz
      have z00 := hzr.2.2.1
      rw [hN] at E
      clear UN UZ hN hz hzr U P3 HS HR H0
      generalize z.min = zm at *
      by_cases t2 : zm < N0
      · have F := Lib.hid (show comb N0 zm = zm by unfold comb; rw [if_neg (by omega), if_pos (Or.inr t2)])
        have d2 : decide (zm < N0) = true := by simpa using t2
        rw [F.out] at E
        have E' := Lib.hid E
        clear E F t2 hN1
        go_wp2
        go_ret
        exact ⟨by rw [E'.out]; rfl, B3.out⟩
      · have F := Lib.hid (show comb N0 zm = N0 by unfold comb; rw [if_neg (by omega), if_neg (by omega)])
        have d2 : decide (zm < N0) = false := by simpa using t2
        rw [F.out] at E
        have E' := Lib.hid E
        clear E F t2 hN1
        go_wp2
        go_ret
        exact ⟨by rw [E'.out]; rfl, B3.out⟩
    · have hN := UZ.out (by omega)
      have hge : (S.length : Int) ≤ (n : Int) := by omega
      have d2 : decide ((n : Int) < (S.length : Int)) = false := by simp; omega
      rw [hN, show comb N0 (-1) = N0 from if_pos (by decide)] at E
      have E' := Lib.hid E
      clear UN UZ hN U P3 HS HR H0 E hN1
      go_wp2
      go_ret
      exact ⟨by rw [E'.out]; rfl, B3.out⟩
end Se
end Go.Proofs.Ytehiclmkdpcplaa

namespace Go.Proofs.Ytehiclmkdpcplaa
open Go.RowKit

namespace Se
set_option maxRecDepth 100000 in
set_option maxHeartbeats 2000000 in
theorem pnew_no (wo ga : Int) (w : World) (hm : mayB wo ga = false) : Calls Try.prog 34 #[.int .i64 wo, .int .i64 ga] w fun e w' => e = .returned (.tuple #[.pointer none, .int .i64 1]) ∧ Below w.heap.size w w' := by
  have E : mayB wo ga = (tenB wo && belB ga 1048576) := by
    rw [Bool.eq_iff_iff]
    simp [mayB, tenB, belB]
    omega
  rw [E] at hm
  have T := Lib.hid (fun W => ten_any wo W)
  have G := Lib.hid (fun W => bel_any ga 1048576 W)
  clear E
  generalize tenB wo = t at *
  generalize belB ga 1048576 = u at *
  cases t
  · clear hm
    go_enter Try.func34, Try.ntmps34
    go_wp2_with fail
    refine (T.out _).mono ?_
    rintro e w1 ⟨rfl, rfl⟩
    go_wp2
    go_ret2
    exact ⟨rfl, Below.refl _ _⟩
  · cases u
    · clear hm
      go_enter Try.func34, Try.ntmps34
      go_wp2_with fail
      refine (T.out _).mono ?_
      rintro e w1 ⟨rfl, rfl⟩
      go_wp2_with fail
      refine (G.out _).mono ?_
      rintro e w2 ⟨rfl, rfl⟩
      go_wp2
      go_ret2
      exact ⟨rfl, Below.refl _ _⟩
    · cases hm
set_option maxRecDepth 100000 in
set_option maxHeartbeats 2000000 in
theorem pnew_yes (wo ga : Int) (w : World) (hm : mayB wo ga = true) : Calls Try.prog 34 #[.int .i64 wo, .int .i64 ga] w fun e w' =>
    e = .returned (.tuple #[.pointer (some ⟨w.heap.size, 0, none⟩), .int .i64 0]) ∧ PSer w' w.heap.size w.heap.size (.slice none 0 0) wo ga [] ∧ Below w.heap.size w w' := by
  have E : mayB wo ga = (tenB wo && belB ga 1048576) := by
    rw [Bool.eq_iff_iff]
    simp [mayB, tenB, belB]
    omega
  rw [E] at hm
  obtain ⟨h1, h2⟩ := (Bool.and_eq_true _ _).mp hm
  have T := Lib.hid (fun W => ten_any wo W)
  have G := Lib.hid (fun W => bel_any ga 1048576 W)
  rw [h1] at T
  rw [h2] at G
  clear E hm h1 h2
  go_enter Try.func34, Try.ntmps34
  go_wp2_with fail
  refine (T.out _).mono ?_
  rintro e w1 ⟨rfl, rfl⟩
  go_wp2_with fail
  refine (G.out _).mono ?_
  rintro e w2 ⟨rfl, rfl⟩
  go_wp2
  go_ret2
  exact ⟨rfl, ⟨Nat.le_refl _, Lies.new _ _ _, World.ownsRow_nil _ _ _ _⟩, alloc_below _ _⟩
theorem rcells_one (x : Rd) : ∀ u ∈ rcells x, u.oneCell' = true := by
  intro u hu
  simp only [rcells, List.mem_cons, List.not_mem_nil, or_false] at hu
  rcases hu with rfl | rfl | rfl <;> rfl
set_option maxRecDepth 100000 in
set_option maxHeartbeats 2000000 in
theorem pall_any (B h : Nat) (v : Value) (wo ga : Int) (S : List Rd) (w : World) (hp : PSer w B h v wo ga S) (hL : S.length ≤ 1000000) :
    Calls Try.prog 32 #[.pointer (some ⟨h, 0, none⟩)] w fun e w' => ∃ v, e = .returned v ∧ w'.ownsRow w.heap.size 37 3 v S.length (S.flatMap rcells) ∧ Below w.heap.size w w' := by
  obtain ⟨q, c, rfl, _, hR⟩ := rw_own rcells_len hp.2.2
  have C := Lib.hid (Rd.clone_any rcells_len rcells_one q S.length c S w hR hL)
  have k2 : w.cell? ⟨h, 2, none⟩ = some (.slice q S.length c) := hp.2.1.cell 2
  clear hp hR
  go_enter Try.func32, Try.ntmps32
  go_wp2_with fail
  refine C.out.mono ?_
  rintro e w1 ⟨v, rfl, ho, hb⟩
  have O := Lib.hid ho
  have Bb := Lib.hid hb
  clear ho hb C
  go_wp2
  go_ret
  exact ⟨v, rfl, O.out, Bb.out⟩
end Se
end Go.Proofs.Ytehiclmkdpcplaa

namespace Go.Proofs.Ytehiclmkdpcplaa
open Go.RowKit

namespace Se
theorem putS_lt (r x : Rd) : putS r x < 0 ↔ lt x r := by
  unfold putS orI cmpI lt
  split <;> split <;> (try split) <;> omega
theorem putS_gt (r x : Rd) : 0 < putS r x ↔ lt r x := by
  unfold putS orI cmpI lt
  split <;> split <;> (try split) <;> omega
theorem putS_one (r x : Rd) : putS r x = 0 ↔ one x r := by
  unfold putS orI cmpI one
  split <;> split <;> (try split) <;> omega
theorem sides_put (S : List Rd) (hs : Sorted S) (r : Rd) : Sides S (putS r) := by
  intro i j x y hij hx hy
  have hlt := sorted_at hs hx hy hij
  constructor
  · intro h
    rw [putS_lt]
    rcases Int.lt_or_eq_of_le h with h | h
    · exact lt_trans hlt ((putS_lt r y).1 h)
    · have := (putS_one r y).1 h
      unfold lt one at *
      omega
  · intro h
    rw [putS_gt]
    rcases Int.lt_or_eq_of_le h with h | h
    · exact lt_trans ((putS_gt r x).1 h) hlt
    · have := (putS_one r x).1 h.symm
      unfold lt one at *
      omega
/-- What putting makes of a series. -/
def PPut (w : World) (B h : Nat) (v : Value) (wo ga : Int) (S : List Rd) (w' : World) : Prop :=
  ∃ v', PSer w' B h v' wo ga S ∧ Turn (Feet h v) w w' ∧ ∀ k, v'.ownBlock = some k → v.ownBlock = some k ∨ w.heap.size ≤ k
theorem pput_no (B h : Nat) (v : Value) (wo ga : Int) (S : List Rd) (r : Rd) (w : World) (hp : PSer w B h v wo ga S) (hr : rightB r = false) :
    Calls Try.prog 37 #[.pointer (some ⟨h, 0, none⟩), rval r] w fun e w' => e = .returned (.tuple #[.bool false, .int .i64 1]) ∧ PPut w B h v wo ga S w' := by
  have M := Lib.hid (fun W => maybe_any r W)
  rw [hr] at M
  have HP := Lib.hid hp
  have B0 := Lib.hid (alloc_below w (.cells #[.int .i64 r.min, .int .i64 r.seq, .int .i64 r.ten] 37))
  clear hp hr
  obtain ⟨m, s, t⟩ := r
  unfold rval at *
  simp only at *
  go_enter Try.func37, Try.ntmps37
  go_wp2_with fail
  refine (M.out _).mono ?_
  rintro e w1 ⟨rfl, hb⟩
  have B1 := Lib.hid (B0.out.trans (hb.mono B0.out.size))
  clear hb
  go_wp2
  go_ret2
  exact ⟨rfl, v, HP.out.below B1.out, Turn.of_below B1.out, fun k hk => .inl hk⟩
theorem pput_same {w w2 : World} {B h : Nat} {v : Value} {wo ga : Int} {S : List Rd} (hb : Below w.heap.size w w2) (hp : PSer w2 B h v wo ga S) (j : Nat) : PPut w B h v wo ga S (w2.drewN j) :=
  ⟨v, hp.turn (T := fun _ => False) (turn_drewN _ _ _) (fun _ _ hf => hf), Turn.of_below (below_drewN hb j), fun _ hk => .inl hk⟩
theorem pput_set {w w2 : World} {B h b n c low : Nat} {wo ga m s t : Int} {S : List Rd} {x : Rd} (hb : Below w.heap.size w w2) (hp : PSer w2 B h (.slice (some ⟨b, 0, none⟩) n c) wo ga S) (hx : S[low]? = some x) (j : Nat) :
    PPut w B h (.slice (some ⟨b, 0, none⟩) n c) wo ga (S.set low ⟨m, s, t⟩) ((((w2.drewN j).setCell ⟨b, low * 3, none⟩ (.int .i64 m)).setCell ⟨b, low * 3 + 1, none⟩ (.int .i64 s)).setCell ⟨b, low * 3 + 2, none⟩ (.int .i64 t)) := by
  have hlt := (List.getElem?_eq_some_iff.1 hx).1
  have hn : n = S.length := by
    rcases hp.2.2.2 with ⟨e, _⟩ | ⟨_, _, _, e, _⟩
    · cases e
    · injection e with _ e
  subst hn
  have ho : (w2.drewN j).ownsRow B 37 3 (.slice (some ⟨b, 0, none⟩) S.length c) S.length (S.flatMap rcells) := hp.2.2
  have g1 : (S.set low ⟨m, x.seq, x.ten⟩)[low]? = some ⟨m, x.seq, x.ten⟩ := by rw [List.getElem?_set_self hlt]
  have g2 : (S.set low ⟨m, s, x.ten⟩)[low]? = some ⟨m, s, x.ten⟩ := by rw [List.getElem?_set_self hlt]
  have h1 := row_store rcells_len ho hx (i := 0) (by decide) (x' := ⟨m, x.seq, x.ten⟩) (u := .int .i64 m) rfl
  have h2 := row_store rcells_len h1 g1 (i := 1) (by decide) (x' := ⟨m, s, x.ten⟩) (u := .int .i64 s) rfl
  rw [List.set_set] at h2
  have h3 := row_store rcells_len h2 g2 (i := 2) (by decide) (x' := ⟨m, s, t⟩) (u := .int .i64 t) rfl
  rw [List.set_set] at h3
  have hne : h ≠ b := fun e => own_blk_ne hp.2.2 hp.2.1 (by decide) (by rw [e]; rfl)
  have hS : ∀ k, k = b → Feet h (.slice (some ⟨b, 0, none⟩) S.length c) k := fun k hk => .inr (by rw [hk]; rfl)
  have T0 : Turn (fun k => k = b) w2 ((((w2.drewN j).setCell ⟨b, low * 3, none⟩ (.int .i64 m)).setCell ⟨b, low * 3 + 1, none⟩ (.int .i64 s)).setCell ⟨b, low * 3 + 2, none⟩ (.int .i64 t)) :=
    ((((Turn.refl (fun k => k = b) w2).drewN j).setCell (p := ⟨b, low * 3, none⟩) (.inl rfl) _).setCell (p := ⟨b, low * 3 + 1, none⟩) (.inl rfl) _).setCell (p := ⟨b, low * 3 + 2, none⟩) (.inl rfl) _
  refine ⟨_, ⟨hp.1, hp.2.1.turn T0 hne, ?_⟩, (Turn.of_below hb).trans T0 (fun i hi => .inl (hS i hi)), fun _ hk => .inl hk⟩
  rw [List.length_set]
  exact h3
theorem pput_new {w w1 w2 : World} {B h : Nat} {v v' : Value} {wo ga : Int} {S : List Rd} {r : Rd} {low : Nat} (hb : Below w.heap.size w w1) (hp : PSer w1 B h v wo ga S)
    (ho : w2.ownsRow B 37 3 v' (S.length + 1) ((S.take low ++ r :: S.drop low).flatMap rcells)) (hlow : low ≤ S.length)
    (ht : Turn (fun k => v.ownBlock = some k) (w1.alloc (.cells #[.int .i64 r.min, .int .i64 r.seq, .int .i64 r.ten] 37)).drew w2) (hv : v'.ownBlock = v.ownBlock ∨ v'.ownBlock = some (w1.heap.size + 1)) :
    PPut w B h v wo ga (S.take low ++ r :: S.drop low) (w2.setCell ⟨h, 2, none⟩ v') := by
  have hsz := hb.size
  have hl : (S.take low ++ r :: S.drop low).length = S.length + 1 := by
    rw [List.length_append, List.length_cons, List.length_take, List.length_drop]
    omega
  have hne : v.ownBlock ≠ some h := own_blk_ne hp.2.2 hp.2.1 (by decide)
  have hB2 : Lies w2 h 91 #[.int .i64 wo, .int .i64 ga, v] := ((hp.2.1.alloc _).drewN 1).turn ht hne
  have hne2 : v'.ownBlock ≠ some h := own_blk_ne ho hB2 (by decide)
  have T1 : Turn (Feet h v) w w2 := (((Turn.of_below (S := Feet h v) hb).alloc (.cells #[.int .i64 r.min, .int .i64 r.seq, .int .i64 r.ten] 37)).drew).trans ht (fun i hi => .inl (.inr hi))
  refine ⟨v', ⟨hp.1, ?_, ?_⟩, T1.setCell (p := ⟨h, 2, none⟩) (.inl (.inl rfl)) _, fun k hk => ?_⟩
  · simpa using hB2.set_ 2 v'
  · rw [hl]
    exact own_turn ho ((Turn.refl (fun k => k = h) w2).setCell (p := ⟨h, 2, none⟩) (.inl rfl) _) (fun k hk e => by
      subst e
      exact hne2 hk)
  · rcases hv with h1 | h1
    · exact .inl (h1 ▸ hk)
    · rw [h1] at hk
      cases hk
      exact .inr (by omega)
set_option maxRecDepth 100000 in
set_option maxHeartbeats 8000000 in
theorem pput_yes (B h : Nat) (v : Value) (wo ga : Int) (S : List Rd) (r : Rd) (w : World) (hp : PSer w B h v wo ga S) (hs : Sorted S) (hr : rightB r = true) (hL : S.length ≤ 100000) :
    Calls Try.prog 37 #[.pointer (some ⟨h, 0, none⟩), rval r] w fun e w' => e = .returned (.tuple #[.bool (put S r).1, .int .i64 0]) ∧ PPut w B h v wo ga (sortL (put S r).2) w' := by
  have M := Lib.hid (fun W => maybe_any r W)
  rw [hr] at M
  have HP := Lib.hid hp
  have HS := Lib.hid hs
  have B0 := Lib.hid (alloc_below w (.cells #[.int .i64 r.min, .int .i64 r.seq, .int .i64 r.ten] 37))
  have X0 := Lib.hid (Lies.new w 37 #[.int .i64 r.min, .int .i64 r.seq, .int .i64 r.ten])
  have PL := Lib.hid (fun W (hb : Below w.heap.size w W) (hx : Lies W w.heap.size 37 #[.int .i64 r.min, .int .i64 r.seq, .int .i64 r.ten]) => place_any 59 ⟨w.heap.size, 0, none⟩ enter_put B h v wo ga S (putS r) W (hp.below hb) (by omega) (sides_put S hs r)
    (fun x W' hb' => side_any r x w.heap.size W' ((hx.below hb' hx.lt).cell 0) ((hx.below hb' hx.lt).cell 1) (hx.below hb' hx.lt).lt))
  clear hp hs hr
  have QS := Lib.hid (fun x => putS_lt r x)
  have QG := Lib.hid (fun x => putS_gt r x)
  have QO := Lib.hid (fun x => putS_one r x)
  generalize putS r = f at *
  obtain ⟨m, s, t⟩ := r
  unfold rval at M ⊢
  simp only at M B0 X0 PL ⊢
  go_enter Try.func37, Try.ntmps37
  go_wp2_with fail
  refine (M.out _).mono ?_
  rintro e w1 ⟨rfl, hb⟩
  have B1 := Lib.hid (B0.out.trans (hb.mono B0.out.size))
  have X1 := Lib.hid (X0.out.below hb X0.out.lt)
  clear hb B0 X0 M
  go_wp2_with fail
  refine (PL.out _ B1.out X1.out).mono ?_
  rintro e w2 ⟨low, there, hpl, rfl, hb⟩
  have PC := Lib.hid hpl
  have B2 := Lib.hid (then_ B1.out hb)
  have X2 := Lib.hid (X1.out.below hb X1.out.lt)
  have P2 := Lib.hid (HP.out.below B2.out)
  clear hpl hb B1 X1 PL HP
  cases there with
  | false =>
    have hlow := PC.out.1
    have h2 := PC.out.2.2 rfl
    have SI := Lib.hid (sort_insert HS.out (r := ⟨m, s, t⟩) (i := low) (fun j x hx => ⟨fun hj => (QS.out x).1 ((h2 j x hx).1 hj), fun hj => (QG.out x).1 ((h2 j x hx).2 hj)⟩))
    have PN := Lib.hid (put_new (S := S) (r := ⟨m, s, t⟩) (fun x hx ho => by
      obtain ⟨j, hj⟩ := List.mem_iff_getElem?.1 hx
      have h0 := (QO.out x).2 ho
      have := h2 j x hj
      omega))
    have hB := P2.out.1
    have hbb := P2.out.2.1
    have k2 : w2.cell? ⟨h, 2, none⟩ = some v := hbb.cell 2
    have x0 : w2.cell? ⟨w.heap.size, 0, none⟩ = some (.int .i64 m) := X2.out.cell 0
    have x1 : w2.cell? ⟨w.heap.size, 1, none⟩ = some (.int .i64 s) := X2.out.cell 1
    have x2 : w2.cell? ⟨w.heap.size, 2, none⟩ = some (.int .i64 t) := X2.out.cell 2
    have hne : v.ownBlock ≠ some h := own_blk_ne P2.out.2.2 hbb (by decide)
    have lh := hbb.lt
    have INS := Lib.hid (Rd.ins_any rcells_len rcells_one B v S low ⟨m, s, t⟩ w2.heap.size ((w2.alloc (.cells #[.int .i64 m, .int .i64 s, .int .i64 t] 37)).drew) (P2.out.2.2.alloc _) (by omega) ((Lies.new w2 37 #[.int .i64 m, .int .i64 s, .int .i64 t]).drewN 1)
      (fun e => by have := own_lt P2.out.2.2 e; omega) (by simp; omega) hlow)
    obtain ⟨q, d, rfl⟩ := own_slice P2.out.2.2
    clear h2 QS QG QO X2 PC
    go_wp2_with fail
    go_region_law
      ((go_simp; go_at_call 62; refine INS.out.mono ?_; rintro e w3 ⟨v', rfl, ho, ht, hv⟩; obtain ⟨q', d', rfl⟩ := own_slice ho; have fb := (((hbb.alloc (.cells #[.int .i64 m, .int .i64 s, .int .i64 t] 37)).drewN 1).turn ht hne); have f2 := fb.frozen 2; have c2 : w3.cell? ⟨h, 2, none⟩ = some (.slice q S.length d) := fb.cell 2))
    all_goals
      have FIN := Lib.hid (pput_new (r := ⟨m, s, t⟩) B2.out P2.out ho hlow ht (by simpa using hv))
      clear ho ht hv INS B2 P2 fb f2 c2 hbb k2 x0 x1 x2
      go_wp2
      go_ret2
      rw [PN.out, SI.out]
      exact ⟨rfl, FIN.out⟩
  | true =>
    obtain ⟨x, hx, hx0⟩ := PC.out.2.1 rfl
    have ho := (QO.out x).1 hx0
    have hlt := (List.getElem?_eq_some_iff.1 hx).1
    have PT := Lib.hid (put_there HS.out hx ho)
    have hbb := P2.out.2.1
    obtain ⟨b, c, e, hBb, hbl, hnc⟩ := own_some P2.out.2.2 (by omega)
    subst e
    have k2 : w2.cell? ⟨h, 2, none⟩ = some (.slice (some ⟨b, 0, none⟩) S.length c) := hbb.cell 2
    have x0 : w2.cell? ⟨w.heap.size, 0, none⟩ = some (.int .i64 m) := X2.out.cell 0
    have x1 : w2.cell? ⟨w.heap.size, 1, none⟩ = some (.int .i64 s) := X2.out.cell 1
    have x2 : w2.cell? ⟨w.heap.size, 2, none⟩ = some (.int .i64 t) := X2.out.cell 2
    have e0 : w2.cell? ⟨b, low * 3, none⟩ = some (.int .i64 x.min) := row_cell rcells_len P2.out.2.2 rfl hx (i := 0) (by decide)
    have e1 : w2.cell? ⟨b, low * 3 + 1, none⟩ = some (.int .i64 x.seq) := row_cell rcells_len P2.out.2.2 rfl hx (i := 1) (by decide)
    have e2 : w2.cell? ⟨b, low * 3 + 2, none⟩ = some (.int .i64 x.ten) := row_cell rcells_len P2.out.2.2 rfl hx (i := 2) (by decide)
    have hlt' : (low : Int) < (S.length : Int) := by omega
    have hL' : (S.length : Int) ≤ 100000 := by omega
    clear QS QG QO PC hx0
    by_cases hle : t ≤ x.ten
    · have E := Lib.hid (show put S ⟨m, s, t⟩ = (false, S) by rw [PT.out, if_pos hle])
      have d1 : decide (x.ten < t) = false := by simp; omega
      clear hle PT hx ho
      go_wp2_with fail
      go_quiet (fail)
      go_wp2
      go_ret2
      rw [E.out]
      simp only
      rw [sort_self HS.out]
      exact ⟨rfl, pput_same B2.out P2.out _⟩
    · have E := Lib.hid (show put S ⟨m, s, t⟩ = (true, S.set low ⟨m, s, t⟩) by rw [PT.out, if_neg hle])
      have SE := Lib.hid (sort_set HS.out hx ho)
      have d1 : decide (x.ten < t) = true := by simp; omega
      have f0 := P2.out.2.2.frozenAt (low * 3)
      have f1 := P2.out.2.2.frozenAt (low * 3 + 1)
      have f2 := P2.out.2.2.frozenAt (low * 3 + 2)
      clear hle PT ho
      go_wp2_with fail
      go_quiet (fail)
      go_wp2_with fail
      go_region
      all_goals
        go_wp2
        go_ret2
        rw [E.out]
        simp only
        rw [SE.out]
        exact ⟨rfl, pput_set B2.out P2.out hx _⟩
theorem pput_any (B h : Nat) (v : Value) (wo ga : Int) (S : List Rd) (r : Rd) (w : World) (hp : PSer w B h v wo ga S) (hs : Sorted S) (hL : S.length ≤ 100000) :
    Calls Try.prog 37 #[.pointer (some ⟨h, 0, none⟩), rval r] w fun e w' => e = .returned (.tuple #[.bool (putR S r).1, .int .i64 ((putR S r).2.1 : Nat)]) ∧ PPut w B h v wo ga (sortL (putR S r).2.2) w' := by
  unfold putR
  by_cases hr : rightB r = true
  · rw [if_pos hr]
    exact pput_yes B h v wo ga S r w hp hs hr hL
  · rw [if_neg hr]
    simp only
    rw [sort_self hs]
    exact pput_no B h v wo ga S r w hp (by simpa using hr)
end Se
end Go.Proofs.Ytehiclmkdpcplaa

namespace Go.Proofs.Ytehiclmkdpcplaa
open Go.RowKit

namespace Se
set_option maxRecDepth 100000 in
theorem pnil_put (r : Rd) (w : World) : Calls Try.prog 37 #[.pointer none, rval r] w fun e w' => e = .returned (.tuple #[.bool false, .int .i64 1]) ∧ Below w.heap.size w w' := by
  have B0 := Lib.hid (alloc_below w (.cells #[.int .i64 r.min, .int .i64 r.seq, .int .i64 r.ten] 37))
  obtain ⟨m, s, t⟩ := r
  unfold rval
  simp only at B0 ⊢
  go_enter Try.func37, Try.ntmps37
  go_wp2
  go_ret2
  exact ⟨rfl, B0.out⟩
theorem pnil_at (m : Int) (w : World) : Calls Try.prog 30 #[.pointer none, .int .i64 m] w fun e w' => e = .returned (.int .i64 0) ∧ Below w.heap.size w w' := by
  go_enter Try.func30, Try.ntmps30
  go_wp2
  go_ret
  exact ⟨rfl, Below.refl _ _⟩
theorem pnil_next (m : Int) (w : World) : Calls Try.prog 84 #[.pointer none, .int .i64 m] w fun e w' => e = .returned (.int .i64 (-1)) ∧ Below w.heap.size w w' := by
  go_enter Try.func84, Try.ntmps84
  go_wp2
  go_ret
  exact ⟨rfl, Below.refl _ _⟩
theorem pnil_all (w : World) : Calls Try.prog 32 #[.pointer none] w fun e w' => e = .returned (.slice none 0 0) ∧ Below w.heap.size w w' := by
  go_enter Try.func32, Try.ntmps32
  go_wp2
  go_ret
  exact ⟨rfl, Below.refl _ _⟩
/-- A series at a block, with its memory. -/
def PSF (w : World) (B h : Nat) (F : Nat → Prop) (wo ga : Int) (S : List Rd) : Prop := ∃ v, PSer w B h v wo ga S ∧ F = Feet h v
/-- The bundle. -/
def face : Face where
  PS := PSF
  foot := fun ⟨_, hp, e⟩ hk => hp.foot (e ▸ hk)
  turn := fun ⟨v, hp, e⟩ ht hs => ⟨v, hp.turn ht (fun k hk => hs k (e ▸ hk)), e⟩
  new_yes := fun wo ga w hm => (pnew_yes wo ga w hm).mono fun _ _ ⟨he, hp, hb⟩ => ⟨_, _, he, ⟨_, hp, rfl⟩, hb⟩
  new_no := pnew_no
  put := fun B h F wo ga S r w ⟨v, hp, e⟩ hs _ hL => by
    subst e
    refine (pput_any B h v wo ga S r w hp hs (by omega)).mono ?_
    rintro e w' ⟨he, v', hp', ht, hv⟩
    refine ⟨he, Feet h v', ⟨v', hp', rfl⟩, ht, fun k hk => ?_⟩
    rcases hk with rfl | hk
    · exact .inl (.inl rfl)
    · rcases hv k hk with h1 | h1
      · exact .inl (.inr h1)
      · exact .inr h1
  airAt := fun B h F wo ga S m w ⟨v, hp, _⟩ hs hr _ hL _ m1 => pat_any B h v wo ga S m w hp hs hr (by omega) m1
  nextAt := fun B h F wo ga S m w ⟨v, hp, _⟩ hs hr hm hL _ m1 => pnext_any B h v wo ga S m w hp hs hr ⟨(may_of hm).2.2.1, (may_of hm).2.2.2⟩ (by omega) m1
  told := fun B h F wo ga S w ⟨v, hp, _⟩ _ hL => pall_any B h v wo ga S w hp (by omega)
  nil_put := pnil_put
  nil_at := pnil_at
  nil_next := pnil_next
  nil_told := pnil_all
end Se
end Go.Proofs.Ytehiclmkdpcplaa

namespace Go.Proofs.Ytehiclmkdpcplaa
open Go.RowKit Se

namespace Ex
/-- Contracts of package excess: an index at block h, its memory F, its readings S in order. -/
structure Face where
  IX : World → Nat → Nat → (Nat → Prop) → Int → Int → Int → List Rd → Prop
  foot : ∀ {w : World} {B h : Nat} {F : Nat → Prop} {wo ga li : Int} {S : List Rd} {k : Nat}, IX w B h F wo ga li S → F k → B ≤ k ∧ k < w.heap.size
  turn : ∀ {w w' : World} {B h : Nat} {F T : Nat → Prop} {wo ga li : Int} {S : List Rd}, IX w B h F wo ga li S → Turn T w w' → (∀ k, F k → ¬ T k) → IX w' B h F wo ga li S
  new_yes : ∀ (wo ga li : Int) (w : World), mayB wo ga = true → tenB li = true → Calls Try.prog 64 #[.int .i64 wo, .int .i64 ga, .int .i64 li] w fun e w' =>
    ∃ h F, e = .returned (.tuple #[.pointer (some ⟨h, 0, none⟩), .int .i64 0]) ∧ IX w' w.heap.size h F wo ga li [] ∧ Below w.heap.size w w'
  new_no : ∀ (wo ga li : Int) (w : World), (mayB wo ga && tenB li) = false → Calls Try.prog 64 #[.int .i64 wo, .int .i64 ga, .int .i64 li] w fun e w' =>
    e = .returned (.tuple #[.pointer none, .int .i64 1]) ∧ Below w.heap.size w w'
  put : ∀ (B h : Nat) (F : Nat → Prop) (wo ga li : Int) (S : List Rd) (r : Rd) (w : World), IX w B h F wo ga li S → Sorted S → (∀ x ∈ S, rightB x = true) → mayB wo ga = true → tenB li = true → S.length ≤ 1000 →
    Calls Try.prog 38 #[.pointer (some ⟨h, 0, none⟩), rval r] w fun e w' =>
      e = .returned (.tuple #[.bool (putR S r).1, .int .i64 ((putR S r).2.1 : Nat)]) ∧ ∃ F', IX w' B h F' wo ga li (sortL (putR S r).2.2) ∧ Turn F w w' ∧ ∀ k, F' k → F k ∨ w.heap.size ≤ k
  sum : ∀ (B h : Nat) (F : Nat → Prop) (wo ga li : Int) (S : List Rd) (a b : Int) (w : World), IX w B h F wo ga li S → Sorted S → (∀ x ∈ S, rightB x = true) → mayB wo ga = true → tenB li = true → S.length ≤ 1000 →
    -9223372036854775808 ≤ a → a ≤ 9223372036854775807 → -9223372036854775808 ≤ b → b ≤ 9223372036854775807 →
    Calls Try.prog 42 #[.pointer (some ⟨h, 0, none⟩), .int .i64 a, .int .i64 b] w fun e w' =>
      e = .returned (.int .i64 (tot wo ga li S a b)) ∧ ∃ F', IX w' B h F' wo ga li S ∧ Turn F w w' ∧ ∀ k, F' k → F k ∨ w.heap.size ≤ k
  nil_put : ∀ (r : Rd) (w : World), Calls Try.prog 38 #[.pointer none, rval r] w fun e w' => e = .returned (.tuple #[.bool false, .int .i64 1]) ∧ Below w.heap.size w w'
  nil_sum : ∀ (a b : Int) (w : World), Calls Try.prog 42 #[.pointer none, .int .i64 a, .int .i64 b] w fun e w' => e = .returned (.int .i64 0) ∧ Below w.heap.size w w'
theorem Face.keep (I : Face) {w w' : World} {B h : Nat} {F : Nat → Prop} {wo ga li : Int} {S : List Rd} (hp : I.IX w B h F wo ga li S) (hb : Below w.heap.size w w') : I.IX w' B h F wo ga li S :=
  I.turn hp (T := fun _ => False) (Turn.of_below hb) (fun _ _ hf => hf)
theorem Face.next_below (I : Face) {w wi w' : World} {B h : Nat} {F : Nat → Prop} {wo ga li : Int} {S S' : List Rd} (hp : I.IX wi B h F wo ga li S) (hb : Below B w wi) (hB : B ≤ wi.heap.size) (h' : ∃ F', I.IX w' B h F' wo ga li S' ∧ Turn F wi w' ∧ ∀ k, F' k → F k ∨ wi.heap.size ≤ k) :
    ∃ F', I.IX w' B h F' wo ga li S' ∧ Below B w w' := by
  obtain ⟨F', h1, ht, _⟩ := h'
  exact ⟨F', h1, ht.below hb hB (fun i hi => (I.foot hp hi).1)⟩
def e1 : List Rd := [⟨2, 0, 45⟩]
def e2 : List Rd := [⟨2, 0, 45⟩, ⟨4, 0, 30⟩]
theorem p1 : putR [] ⟨2, 0, 45⟩ = (true, 0, e1) ∧ sortL e1 = e1 := by decide
theorem p2 : putR e1 ⟨4, 0, 30⟩ = (true, 0, e2) ∧ sortL e2 = e2 := by decide
theorem t0 : tot 100 5 40 [] 0 3 = 180 ∧ tot 100 5 40 e1 0 10 = 270 ∧ tot 100 5 40 e2 (-7) 10 = 130 ∧ tot 100 5 40 e2 5 5 = 0 ∧ tot 100 5 40 e2 1 4 = 70 := by decide
theorem hot : tot 1099511627776 0 (-1099511627776) [] 0 9000000 = 2305843009213693952 := by
  unfold tot
  have h := exc_run (wo := 1099511627776) (ga := 0) (lim := -1099511627776) (m := 0) (L := []) (by simp) (by decide) (k := 1048576) (by decide) (.inl (by decide))
  rw [show (min (9000000 : Int) 1048576 - max 0 0).toNat = 1048576 by decide, show max (0 : Int) 0 = 0 by decide, h]
  decide
theorem srt1 : Sorted e1 := by unfold Sorted e1; decide
theorem srt2 : Sorted e2 := by unfold Sorted e2; decide
theorem rgt1 : ∀ x ∈ e1, rightB x = true := by decide
theorem rgt2 : ∀ x ∈ e2, rightB x = true := by decide
end Ex
end Go.Proofs.Ytehiclmkdpcplaa

namespace Go.Proofs.Ytehiclmkdpcplaa
open Go.RowKit Go.Maps Se

namespace Lg
/-- Sets that are apart, each from the others. -/
def Sep (fs : List (Nat → Prop)) : Prop := ∀ (i j : Nat) (f g : Nat → Prop), fs[i]? = some f → fs[j]? = some g → i ≠ j → ∀ k, f k → ¬ g k
theorem sep_nil : Sep [] := fun i j f g h => by simp at h
theorem sep_set {fs : List (Nat → Prop)} {i : Nat} {f f' : Nat → Prop} {N : Nat} (h : Sep fs) (hi : fs[i]? = some f) (hf : ∀ k, f' k → f k ∨ N ≤ k) (hN : ∀ g ∈ fs, ∀ k, g k → k < N) : Sep (fs.set i f') := by
  have hl := (List.getElem?_eq_some_iff.1 hi).1
  intro a b x z hx hz hab k hk
  by_cases hai : a = i
  · subst hai
    rw [List.getElem?_set_self hl] at hx
    obtain rfl := Option.some.inj hx
    have hz2 : fs[b]? = some z := by rwa [List.getElem?_set_ne hab] at hz
    intro hh
    rcases hf k hk with hk | hk
    · exact h a b f z hi hz2 hab k hk hh
    · have := hN z (List.mem_of_getElem? hz2) k hh
      omega
  · have hx2 : fs[a]? = some x := by rwa [List.getElem?_set_ne (Ne.symm hai)] at hx
    by_cases hbi : b = i
    · subst hbi
      rw [List.getElem?_set_self hl] at hz
      obtain rfl := Option.some.inj hz
      intro hh
      rcases hf k hh with hh | hh
      · exact h a b x f hx2 hi hab k hk hh
      · have := hN x (List.mem_of_getElem? hx2) k hk
        omega
    · have hz2 : fs[b]? = some z := by rwa [List.getElem?_set_ne (Ne.symm hbi)] at hz
      exact h a b x z hx2 hz2 hab k hk
theorem sep_app {fs : List (Nat → Prop)} {f' : Nat → Prop} {N : Nat} (h : Sep fs) (hf : ∀ k, f' k → N ≤ k) (hN : ∀ g ∈ fs, ∀ k, g k → k < N) : Sep (fs ++ [f']) := by
  intro a b x z hx hz hab k hk hh
  have key : ∀ (c : Nat) (u : Nat → Prop), (fs ++ [f'])[c]? = some u → (fs[c]? = some u ∧ c < fs.length) ∨ (u = f' ∧ c = fs.length) := fun c u hu => by
    by_cases hc : c < fs.length
    · rw [List.getElem?_append_left hc] at hu
      exact .inl ⟨hu, hc⟩
    · have h1 := (List.getElem?_eq_some_iff.1 hu).1
      rw [List.length_append, List.length_singleton] at h1
      have hc2 : c = fs.length := by omega
      subst hc2
      rw [List.getElem?_append_right (Nat.le_refl _), Nat.sub_self] at hu
      exact .inr ⟨(Option.some.inj hu).symm, rfl⟩
  rcases key a x hx with ⟨h1, _⟩ | ⟨rfl, h1⟩ <;> rcases key b z hz with ⟨h2, _⟩ | ⟨rfl, h2⟩
  · exact h a b x z h1 h2 hab k hk hh
  · have := hN x (List.mem_of_getElem? h1) k hk
    have := hf k hh
    omega
  · have := hN z (List.mem_of_getElem? h2) k hh
    have := hf k hk
    omega
  · exact hab (h1.trans h2.symm)
/-- An index: its limit, where it lies, its memory. -/
structure Ik where
  lim : Int
  x : Nat
  b : Nat
  F : Nat → Prop
def ikq (x : Ik) : Kq := ⟨x.lim, x.x⟩
/-- A zone as it is kept: where it lies, its series, its indexes. -/
structure Pz where
  z : Zl
  q : Nat
  a : Nat
  ab : Nat
  A : Nat → Prop
  m : Nat
  X : List Ik
def pkq (y : Pz) : Kq := ⟨y.z.id, y.q⟩
section
variable (J : Se.Face) (I : Ex.Face)
/-- Indexes side by side: each with the readings that its limit tells. -/
structure XS (W : World) (B : Nat) (wo ga : Int) (X : List Ik) (st : Int → List Rd) : Prop where
  each : ∀ x ∈ X, tenB x.lim = true ∧ B ≤ x.b ∧ I.IX W x.b x.x x.F wo ga x.lim (st x.lim)
  sep : Sep (X.map Ik.F)
  lims : X.Pairwise fun a b => a.lim ≠ b.lim
variable {J I}
theorem XS.foot {W : World} {B : Nat} {wo ga : Int} {X : List Ik} {st : Int → List Rd} (h : XS I W B wo ga X st) {x : Ik} (hx : x ∈ X) {k : Nat} (hk : x.F k) : B ≤ k ∧ k < W.heap.size := by
  obtain ⟨_, h1, h2⟩ := h.each x hx
  have := I.foot h2 hk
  omega
theorem XS.turn {W W' : World} {B : Nat} {wo ga : Int} {X : List Ik} {st : Int → List Rd} {T : Nat → Prop} (h : XS I W B wo ga X st) (ht : Turn T W W') (hf : ∀ x ∈ X, ∀ k, x.F k → ¬ T k) : XS I W' B wo ga X st :=
  ⟨fun x hx => ⟨(h.each x hx).1, (h.each x hx).2.1, I.turn (h.each x hx).2.2 ht (hf x hx)⟩, h.sep, h.lims⟩
theorem XS.cong {W : World} {B : Nat} {wo ga : Int} {X : List Ik} {st st' : Int → List Rd} (h : XS I W B wo ga X st) (e : ∀ x ∈ X, st' x.lim = st x.lim) : XS I W B wo ga X st' :=
  ⟨fun x hx => by
    rw [e x hx]
    exact h.each x hx, h.sep, h.lims⟩
theorem lims_ne {X : List Ik} (h : X.Pairwise fun a b => a.lim ≠ b.lim) {i j : Nat} {x y : Ik} (hx : X[i]? = some x) (hy : X[j]? = some y) (hij : i ≠ j) : x.lim ≠ y.lim := by
  obtain ⟨h1, e1⟩ := List.getElem?_eq_some_iff.1 hx
  obtain ⟨h2, e2⟩ := List.getElem?_eq_some_iff.1 hy
  rw [← e1, ← e2]
  rcases Nat.lt_or_gt_of_ne hij with h3 | h3
  · exact List.pairwise_iff_getElem.1 h i j h1 h2 h3
  · exact (List.pairwise_iff_getElem.1 h j i h2 h1 h3).symm
theorem ids_ne {L : List Pz} (h : L.Pairwise fun a b => a.z.id ≠ b.z.id) {i j : Nat} {x y : Pz} (hx : L[i]? = some x) (hy : L[j]? = some y) (hij : i ≠ j) : x.z.id ≠ y.z.id := by
  obtain ⟨h1, e1⟩ := List.getElem?_eq_some_iff.1 hx
  obtain ⟨h2, e2⟩ := List.getElem?_eq_some_iff.1 hy
  rw [← e1, ← e2]
  rcases Nat.lt_or_gt_of_ne hij with h3 | h3
  · exact List.pairwise_iff_getElem.1 h i j h1 h2 h3
  · exact (List.pairwise_iff_getElem.1 h j i h2 h1 h3).symm
/-- What a list with another thing in one place holds. -/
theorem mem_set_at {α : Type} {l : List α} {i : Nat} {v z : α} (hi : i < l.length) (hz : z ∈ l.set i v) : z = v ∨ ∃ j, j ≠ i ∧ l[j]? = some z := by
  obtain ⟨j, hj, e⟩ := List.mem_iff_getElem.1 hz
  have e2 : (l.set i v)[j]? = some z := by rw [List.getElem?_eq_getElem hj, e]
  by_cases hji : j = i
  · subst hji
    rw [List.getElem?_set_self hi] at e2
    exact .inl (Option.some.inj e2).symm
  · rw [List.getElem?_set_ne (Ne.symm hji)] at e2
    exact .inr ⟨j, hji, e2⟩
theorem pair_set {α : Type} {R : α → α → Prop} {l : List α} {i : Nat} {x v : α} (h : l.Pairwise R) (hi : l[i]? = some x) (h1 : ∀ y, R x y → R v y) (h2 : ∀ y, R y x → R y v) : (l.set i v).Pairwise R := by
  have hl := (List.getElem?_eq_some_iff.1 hi).1
  rw [List.pairwise_iff_getElem] at *
  intro a b ha hb hab
  rw [List.length_set] at ha hb
  have hg := h a b ha hb hab
  have hx : l[i] = x := (List.getElem?_eq_some_iff.1 hi).2
  rw [List.getElem_set, List.getElem_set]
  by_cases e1 : i = a
  · subst e1
    rw [if_pos rfl, if_neg (by omega)]
    rw [hx] at hg
    exact h1 _ hg
  · rw [if_neg e1]
    by_cases e2 : i = b
    · subst e2
      rw [if_pos rfl]
      rw [hx] at hg
      exact h2 _ hg
    · rw [if_neg e2]
      exact hg
/-- One of them has turned. -/
theorem XS.one {W W' : World} {B : Nat} {wo ga : Int} {X : List Ik} {st : Int → List Rd} (h : XS I W B wo ga X st) {i : Nat} {x : Ik} (hi : X[i]? = some x) {F' : Nat → Prop} {S' : List Rd} (hn : I.IX W' x.b x.x F' wo ga x.lim S') (ht : Turn x.F W W')
    (hF : ∀ k, F' k → x.F k ∨ W.heap.size ≤ k) : XS I W' B wo ga (X.set i { x with F := F' }) (fun l => if l = x.lim then S' else st l) := by
  have hl := (List.getElem?_eq_some_iff.1 hi).1
  have hm := List.mem_of_getElem? hi
  refine ⟨fun y hy => ?_, ?_, pair_set h.lims hi (fun _ hy => hy) (fun _ hy => hy)⟩
  · rcases mem_set_at hl hy with rfl | ⟨j, hj, hy2⟩
    · exact ⟨(h.each x hm).1, (h.each x hm).2.1, by
        simp only [if_true]
        exact hn⟩
    · have hy3 := List.mem_of_getElem? hy2
      rw [if_neg (lims_ne h.lims hy2 hi hj)]
      exact ⟨(h.each y hy3).1, (h.each y hy3).2.1, I.turn (h.each y hy3).2.2 ht (fun k hk => h.sep j i y.F x.F (by rw [List.getElem?_map, hy2]; rfl) (by rw [List.getElem?_map, hi]; rfl) hj k hk)⟩
  · rw [List.map_set]
    exact sep_set h.sep (by rw [List.getElem?_map, hi]; rfl) hF (fun g hg k hk => by
      obtain ⟨y, hy, rfl⟩ := List.mem_map.1 hg
      exact (h.foot hy hk).2)
/-- One more. -/
theorem XS.more {W W' : World} {B : Nat} {wo ga : Int} {X : List Ik} {st : Int → List Rd} (h : XS I W B wo ga X st) (hb : Below W.heap.size W W') {x : Ik} (hx : tenB x.lim = true) (hB : B ≤ x.b) (hW : W.heap.size ≤ x.b) (hn : I.IX W' x.b x.x x.F wo ga x.lim (st x.lim)) (hl : ∀ y ∈ X, y.lim ≠ x.lim) :
    XS I W' B wo ga (X ++ [x]) st := by
  have h' : XS I W' B wo ga X st := h.turn (T := fun _ => False) (Turn.of_below hb) (fun _ _ _ _ hf => hf)
  refine ⟨fun y hy => ?_, ?_, ?_⟩
  · rcases List.mem_append.1 hy with hy | hy
    · exact h'.each y hy
    · rw [List.mem_singleton.1 hy]
      exact ⟨hx, hB, hn⟩
  · rw [List.map_append]
    exact sep_app h.sep (fun k hk => Nat.le_trans hW (I.foot hn hk).1) (fun g hg k hk => by
      obtain ⟨y, hy, rfl⟩ := List.mem_map.1 hg
      exact (h.foot hy hk).2)
  · exact List.pairwise_append.2 ⟨h.lims, List.pairwise_singleton _ _, fun a ha b hb => by
      rw [List.mem_singleton.1 hb]
      exact hl a ha⟩
theorem XS.nil {W : World} {B : Nat} {wo ga : Int} {st : Int → List Rd} : XS I W B wo ga [] st := ⟨fun x hx => by simp at hx, sep_nil, List.Pairwise.nil⟩
variable (J I)
/-- A zone in memory. -/
structure PZ (W : World) (B : Nat) (y : Pz) : Prop where
  base : B ≤ y.q ∧ B ≤ y.ab
  blk : Lies W y.q 72 #[.int .i64 y.z.wo, .int .i64 y.z.ga, .pointer (some ⟨y.a, 0, none⟩), .map (some y.m)]
  air : J.PS W y.ab y.a y.A y.z.wo y.z.ga y.z.S
  tab : Tq W B (some y.m) (y.X.map ikq)
  idx : XS I W B y.z.wo y.z.ga y.X (fun _ => y.z.S)
  aq : ∀ k, y.A k → k ≠ y.q ∧ k ≠ y.m
  xq : ∀ x ∈ y.X, ∀ k, x.F k → k ≠ y.q ∧ k ≠ y.m ∧ ¬ y.A k
/-- Its memory. -/
def ZF (y : Pz) (k : Nat) : Prop := k = y.q ∨ k = y.m ∨ y.A k ∨ ∃ x ∈ y.X, x.F k
variable {J I}
theorem PZ.foot {W : World} {B : Nat} {y : Pz} (h : PZ J I W B y) {k : Nat} (hk : ZF y k) : B ≤ k ∧ k < W.heap.size := by
  rcases hk with rfl | rfl | hk | ⟨x, hx, hk⟩
  · exact ⟨h.base.1, h.blk.lt⟩
  · exact tq_lt h.tab rfl
  · have := J.foot h.air hk
    have := h.base.2
    omega
  · exact h.idx.foot hx hk
theorem PZ.turn {W W' : World} {B : Nat} {y : Pz} {T : Nat → Prop} (h : PZ J I W B y) (ht : Turn T W W') (hf : ∀ k, ZF y k → ¬ T k) : PZ J I W' B y :=
  ⟨h.base, h.blk.turn ht (hf _ (.inl rfl)), J.turn h.air ht (fun k hk => hf k (.inr (.inr (.inl hk)))), tq_turn h.tab ht (fun k hk => hf k (.inr (.inl (Option.some.inj hk).symm))),
    h.idx.turn ht (fun x hx k hk => hf k (.inr (.inr (.inr ⟨x, hx, hk⟩)))), h.aq, h.xq⟩
theorem PZ.keep {W W' : World} {B : Nat} {y : Pz} (h : PZ J I W B y) (hb : Below W.heap.size W W') : PZ J I W' B y :=
  h.turn (T := fun _ => False) (Turn.of_below hb) (fun _ _ hf => hf)
variable (J I)
/-- What a call leaves of a zone. -/
structure ZLeft (w : World) (B : Nat) (y : Pz) (z' : Zl) (y' : Pz) (w' : World) : Prop where
  z : y'.z = z'
  q : y'.q = y.q
  here : PZ J I w' B y'
  turn : Turn (ZF y) w w'
  foot : ∀ k, ZF y' k → ZF y k ∨ w.heap.size ≤ k
variable {J I}
theorem zleft_same {w w' : World} {B : Nat} {y : Pz} (h : PZ J I w B y) (hb : Below w.heap.size w w') : ZLeft J I w B y y.z y w' :=
  ⟨rfl, rfl, h.keep hb, Turn.of_below hb, fun _ hk => .inl hk⟩
variable (J I)
/-- A ledger in memory: its zones in the order in which they came. -/
structure PLg (W : World) (B h : Nat) (mo : Option Nat) (L : List Pz) : Prop where
  base : B ≤ h
  blk : Lies W h 79 #[.map mo]
  tab : Tq W B mo (L.map pkq)
  zones : ∀ y ∈ L, PZ J I W B y
  sep : Sep (L.map ZF)
  apart : ∀ y ∈ L, ∀ k, ZF y k → k ≠ h ∧ mo ≠ some k
  ids : L.Pairwise fun a b => a.z.id ≠ b.z.id
def LF (h : Nat) (mo : Option Nat) (L : List Pz) (k : Nat) : Prop := k = h ∨ mo = some k ∨ ∃ y ∈ L, ZF y k
variable {J I}
theorem PLg.foot {W : World} {B h : Nat} {mo : Option Nat} {L : List Pz} (hp : PLg J I W B h mo L) {k : Nat} (hk : LF h mo L k) : B ≤ k ∧ k < W.heap.size := by
  rcases hk with rfl | hk | ⟨y, hy, hk⟩
  · exact ⟨hp.base, hp.blk.lt⟩
  · exact tq_lt hp.tab hk
  · exact (hp.zones y hy).foot hk
theorem PLg.turn {W W' : World} {B h : Nat} {mo : Option Nat} {L : List Pz} {T : Nat → Prop} (hp : PLg J I W B h mo L) (ht : Turn T W W') (hf : ∀ k, LF h mo L k → ¬ T k) : PLg J I W' B h mo L :=
  ⟨hp.base, hp.blk.turn ht (hf h (.inl rfl)), tq_turn hp.tab ht (fun k hk => hf k (.inr (.inl hk))), fun y hy => (hp.zones y hy).turn ht (fun k hk => hf k (.inr (.inr ⟨y, hy, hk⟩))), hp.sep, hp.apart, hp.ids⟩
theorem PLg.keep {W W' : World} {B h : Nat} {mo : Option Nat} {L : List Pz} (hp : PLg J I W B h mo L) (hb : Below W.heap.size W W') : PLg J I W' B h mo L :=
  hp.turn (T := fun _ => False) (Turn.of_below hb) (fun _ _ hf => hf)
variable (J I)
/-- A ledger. -/
def DBl (W : World) (B h : Nat) (F : Nat → Prop) (st : List Zl) : Prop := ∃ mo L, PLg J I W B h mo L ∧ L.map Pz.z = st ∧ ∀ k, F k ↔ LF h mo L k
variable {J I}
theorem dbl_foot {W : World} {B h : Nat} {F : Nat → Prop} {st : List Zl} {k : Nat} (hp : DBl J I W B h F st) (hk : F k) : B ≤ k ∧ k < W.heap.size := by
  obtain ⟨mo, L, h1, _, h2⟩ := hp
  exact h1.foot ((h2 k).1 hk)
theorem dbl_turn {W W' : World} {B h : Nat} {F T : Nat → Prop} {st : List Zl} (hp : DBl J I W B h F st) (ht : Turn T W W') (hf : ∀ k, F k → ¬ T k) : DBl J I W' B h F st := by
  obtain ⟨mo, L, h1, e, h2⟩ := hp
  exact ⟨mo, L, h1.turn ht (fun k hk => hf k ((h2 k).2 hk)), e, h2⟩
theorem dbl_keep {W W' : World} {B h : Nat} {F : Nat → Prop} {st : List Zl} (hp : DBl J I W B h F st) (hb : Below W.heap.size W W') : DBl J I W' B h F st :=
  dbl_turn hp (T := fun _ => False) (Turn.of_below hb) (fun _ _ hf => hf)
/-- One zone has turned. -/
theorem plg_one {w w' : World} {B h : Nat} {mo : Option Nat} {L : List Pz} (hp : PLg J I w B h mo L) {i : Nat} {y y' : Pz} {z' : Zl} (hi : L[i]? = some y) (hz : ZLeft J I w B y z' y' w') (he : z'.id = y.z.id) :
    PLg J I w' B h mo (L.set i y') ∧ Turn (LF h mo L) w w' ∧ ∀ k, LF h mo (L.set i y') k → LF h mo L k ∨ w.heap.size ≤ k := by
  have hl := (List.getElem?_eq_some_iff.1 hi).1
  have hm := List.mem_of_getElem? hi
  have hid : y'.z.id = y.z.id := by rw [hz.z, he]
  have hT : Turn (LF h mo L) w w' := hz.turn.mono (fun k _ hk => .inr (.inr ⟨y, hm, hk⟩))
  have hq : (L.set i y').map pkq = L.map pkq := by
    rw [List.map_set]
    refine set_same ?_
    rw [List.getElem?_map, hi]
    show some (pkq y) = some (pkq y')
    unfold pkq
    rw [hid, hz.q]
  refine ⟨⟨hp.base, hp.blk.turn hz.turn (fun hh => (hp.apart y hm h hh).1 rfl), ?_, fun x hx => ?_, ?_, fun x hx k hk => ?_, pair_set hp.ids hi (fun _ hh => by rwa [hid]) (fun _ hh => by rwa [hid])⟩, hT, fun k hk => ?_⟩
  · rw [hq]
    exact tq_turn hp.tab hz.turn (fun k hk hh => (hp.apart y hm k hh).2 hk)
  · rcases mem_set_at hl hx with rfl | ⟨j, hj, hx2⟩
    · exact hz.here
    · exact (hp.zones x (List.mem_of_getElem? hx2)).turn hz.turn (fun k hk => hp.sep j i (ZF x) (ZF y) (by rw [List.getElem?_map, hx2]; rfl) (by rw [List.getElem?_map, hi]; rfl) hj k hk)
  · rw [List.map_set]
    exact sep_set hp.sep (by rw [List.getElem?_map, hi]; rfl) hz.foot (fun g hg k hk => by
      obtain ⟨x, hx, rfl⟩ := List.mem_map.1 hg
      exact ((hp.zones x hx).foot hk).2)
  · rcases mem_set_at hl hx with rfl | ⟨j, hj, hx2⟩
    · rcases hz.foot k hk with hk | hk
      · exact hp.apart y hm k hk
      · have h1 := hp.blk.lt
        exact ⟨by omega, fun e => by have := (tq_lt hp.tab e).2; omega⟩
    · exact hp.apart x (List.mem_of_getElem? hx2) k hk
  · rcases hk with hk | hk | ⟨x, hx, hk⟩
    · exact .inl (.inl hk)
    · exact .inl (.inr (.inl hk))
    · rcases mem_set_at hl hx with rfl | ⟨j, hj, hx2⟩
      · exact (hz.foot k hk).imp (fun hk => .inr (.inr ⟨y, hm, hk⟩)) id
      · exact .inl (.inr (.inr ⟨x, List.mem_of_getElem? hx2, hk⟩))
/-- What a call that turns one zone leaves of the ledger. -/
theorem left_one {w w' : World} {B h : Nat} {F : Nat → Prop} {mo : Option Nat} {L : List Pz} (hp : PLg J I w B h mo L) (hF : ∀ k, F k ↔ LF h mo L k) {i : Nat} {y y' : Pz} {z' : Zl} (hi : L[i]? = some y) (hz : ZLeft J I w B y z' y' w') (he : z'.id = y.z.id) :
    Left (DBl J I) w B h F ((L.map Pz.z).set i z') w' := by
  obtain ⟨h1, h2, h3⟩ := plg_one hp hi hz he
  refine ⟨LF h mo (L.set i y'), ⟨mo, L.set i y', h1, ?_, fun k => Iff.rfl⟩, h2.mono (fun k _ hk => (hF k).2 hk), fun k hk => (h3 k hk).imp (fun hk => (hF k).2 hk) id⟩
  rw [List.map_set, hz.z]
/-- What a number leads to, among zones. -/
theorem fq_at (id : Int) : ∀ (L : List Pz), fq id (L.map pkq) = (atZ id (L.map Pz.z)).bind fun i => (L[i]?).map Pz.q
  | [] => rfl
  | y :: L => by
    have ih := fq_at id L
    simp only [List.map_cons, fq, Ms.findK, atZ] at *
    by_cases h : y.z.id = id
    · rw [if_pos h, if_pos (show (pkq y).k = id from h)]
      rfl
    · rw [if_neg h, if_neg (show ¬ (pkq y).k = id from h), ih]
      cases atZ id (L.map Pz.z) <;> rfl
/-- Different whole numbers between two are not too many. -/
theorem few_between : ∀ (n : Nat) (l : List Int) (a : Int), l.Nodup → (∀ x ∈ l, a ≤ x ∧ x < a + n) → l.length ≤ n
  | 0, l, a, _, h => by
    cases l with
    | nil => simp
    | cons x l =>
      have := h x (by simp)
      omega
  | n + 1, l, a, hd, h => by
    have h1 : (l.erase a).length ≤ n := few_between n (l.erase a) (a + 1) (hd.erase a) (fun x hx => by
      have h2 := (List.Nodup.mem_erase_iff hd).1 hx
      have h3 := h x h2.2
      have h4 := h2.1
      omega)
    have h2 : l.length ≤ (l.erase a).length + 1 := by
      rw [List.length_erase]
      split <;> omega
    omega
theorem XS.few {W : World} {B : Nat} {wo ga : Int} {X : List Ik} {st : Int → List Rd} (h : XS I W B wo ga X st) : X.length ≤ 2199023255553 := by
  have := few_between 2199023255553 (X.map Ik.lim) (-1099511627776) (List.pairwise_map.2 h.lims) (fun x hx => by
    obtain ⟨y, hy, rfl⟩ := List.mem_map.1 hx
    have h1 := (h.each y hy).1
    unfold tenB at h1
    rw [decide_eq_true_eq] at h1
    omega)
  rwa [List.length_map] at this
end
end Lg
end Go.Proofs.Ytehiclmkdpcplaa
