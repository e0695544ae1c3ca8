/- The walk over package series' place: where a reading stands, or would. Conditions: a series in order; what is asked of each reading is answered so. -/
import Derived.Test.YtfmnbmjfkplieaaSeP2
import Derived.Deep.LoopGhost
import Derived.WalkMore
namespace Go.Proofs.Ytfmnbmjfkplieaa
open Go.RowKit

namespace Se
/-- A series. -/
def PSer (w : World) (B h : Nat) (v : Value) (wo ga : Int) (S : List Rd) : Prop :=
  B ≤ h ∧ Lies w h 63 #[.int .i64 wo, .int .i64 ga, v] ∧ w.ownsRow B 37 3 v S.length (S.flatMap rcells)
theorem PSer.turn {w w' : World} {B h : Nat} {v : Value} {wo ga : Int} {S : List Rd} {T : Nat → Prop} (hp : PSer w B h v wo ga S) (ht : Turn T w w') (hs : ∀ k, Feet h v k → ¬ T k) : PSer w' B h v wo ga S :=
  ⟨hp.1, hp.2.1.turn ht (hs h (.inl rfl)), own_turn hp.2.2 ht (fun k hk => hs k (.inr hk))⟩
theorem PSer.foot {w : World} {B h : Nat} {v : Value} {wo ga : Int} {S : List Rd} (hp : PSer w B h v wo ga S) {k : Nat} (hk : Feet h v k) : B ≤ k ∧ k < w.heap.size := by
  rcases hk with rfl | hk
  · exact ⟨hp.1, hp.2.1.lt⟩
  · exact own_lt hp.2.2 hk
theorem PSer.below {w w' : World} {B h : Nat} {v : Value} {wo ga : Int} {S : List Rd} (hp : PSer w B h v wo ga S) (hb : Below w.heap.size w w') : PSer w' B h v wo ga S :=
  hp.turn (T := fun _ => False) (Turn.of_below hb) (fun _ _ hf => hf)
/-- On which sides readings in order may be. -/
def Sides (S : List Rd) (f : Rd → Int) : Prop := ∀ (i j : Nat) (x y : Rd), i < j → S[i]? = some x → S[j]? = some y → (f y ≤ 0 → f x < 0) ∧ (0 ≤ f x → 0 < f y)
/-- Where one stands, or would. -/
def Placed (S : List Rd) (f : Rd → Int) (low : Nat) (there : Bool) : Prop :=
  low ≤ S.length ∧ (there = true → ∃ x, S[low]? = some x ∧ f x = 0) ∧ (there = false → ∀ j x, S[j]? = some x → (j < low → f x < 0) ∧ (low ≤ j → 0 < f x))
def PlaceEnd (S : List Rd) (f : Rd → Int) (w : World) (e : Ending) (w' : World) : Prop := ∃ low there, Placed S f low there ∧ e = .returned (.tuple #[.int .i64 ((low : Nat) : Int), .bool there]) ∧ Below w.heap.size w w'
set_option maxRecDepth 100000 in
set_option maxHeartbeats 4000000 in
theorem place_any (g : Nat) (p : Addr) (eg : ∀ args w, (callFunc g args).run Try.prog w = .ok (.enter g args) w) (B h : Nat) (v : Value) (wo ga : Int) (S : List Rd) (f : Rd → Int) (w : World) (hp : PSer w B h v wo ga S) (hL : S.length ≤ 1000000) (hS : Sides S f)
    (hf : ∀ x W, Below w.heap.size w W → Calls Try.prog g #[rval x, .pointer (some p)] W fun e w' => e = .returned (.int .i64 (f x)) ∧ Below W.heap.size W w') :
    Calls Try.prog 39 #[.pointer (some ⟨h, 0, none⟩), .func (.func g) #[] #[.pointer (some p)]] w (PlaceEnd S f w) := by
  obtain ⟨q, d, rfl⟩ := own_slice hp.2.2
  have HP := Lib.hid hp
  have HF := Lib.hid hf
  have c2 : w.cell? ⟨h, 2, none⟩ = some (.slice q S.length d) := hp.2.1.cell 2
  have hL' : (S.length : Int) ≤ 1000000 := by omega
  clear hp hf
  go_enter Try.func39, Try.ntmps39
  go_wp2
  go_step3
  go_wp2
  go_quiet (fail)
  go_wp2
  go_step3
  go_wp2
  go_loopw [6, 7, 8] (fun vl vh vt wr => ∃ (lo hi : Nat), lo ≤ hi ∧ hi ≤ S.length ∧ vl = .int .i64 lo ∧ vh = .int .i64 hi ∧ vt = .bool false ∧ Hid (∀ j x, S[j]? = some x → (j < lo → f x < 0) ∧ (hi ≤ j → 0 < f x)) ∧ Hid (Below w.heap.size w wr)) (fun vl vh _ _ => ((intOf vh) - (intOf vl)).toNat)
  case atStart => exact ⟨0, S.length, Nat.zero_le _, Nat.le_refl _, rfl, rfl, rfl, Lib.hid (fun j x hx => ⟨fun h0 => by omega, fun h0 => by have := (List.getElem?_eq_some_iff.1 hx).1; omega⟩), Lib.hid (below_drewN (Below.refl _ _) _)⟩
  case round =>
    obtain ⟨lo, hi, hlh, hhn, rfl, rfl, rfl, HI, HB⟩ := hrel
    have hhn' : (hi : Int) ≤ (S.length : Int) := by omega
    by_cases hlt : lo < hi
    · have hlt' : (lo : Int) < (hi : Int) := by omega
      obtain ⟨m, hm, hm1, hm2⟩ : ∃ m : Nat, ((lo : Int) + (hi : Int)) / 2 = (m : Int) ∧ lo ≤ m ∧ m < hi := ⟨(lo + hi) / 2, by omega, by omega, by omega⟩
      have hms : (m : Int) < (S.length : Int) := by omega
      obtain ⟨x, hx⟩ : ∃ x, S[m]? = some x := ⟨_, List.getElem?_eq_getElem (by omega)⟩
      have H1 := HP.out.below HB.out
      obtain ⟨b, c, e, hBb, hbl, hnc⟩ := own_some H1.2.2 (by omega)
      cases e
      have k2 : wr.cell? ⟨h, 2, none⟩ = some (.slice (some ⟨b, 0, none⟩) S.length d) := H1.2.1.cell 2
      have e0 : wr.cell? ⟨b, m * 3, none⟩ = some (.int .i64 x.min) := row_cell rcells_len H1.2.2 rfl hx (i := 0) (by decide)
      have e1 : wr.cell? ⟨b, m * 3 + 1, none⟩ = some (.int .i64 x.seq) := row_cell rcells_len H1.2.2 rfl hx (i := 1) (by decide)
      have e2 : wr.cell? ⟨b, m * 3 + 2, none⟩ = some (.int .i64 x.ten) := row_cell rcells_len H1.2.2 rfl hx (i := 2) (by decide)
      have HX := Lib.hid hx
      have C := Lib.hid (HF.out x wr HB.out)
      unfold rval at C
      clear hx H1
      go_wp2_with fail
      refine C.out.mono ?_
      rintro e w2 ⟨rfl, hb⟩
      have HB2 := Lib.hid (HB.out.trans (hb.mono HB.out.size))
      clear hb C HB k2 e0 e1 e2
      have HS := Lib.hid (fun j y hy (hj : j < m) => hS j m y x hj hy HX.out)
      have HS2 := Lib.hid (fun j y hy (hj : m < j) => hS m j x y hj HX.out hy)
      rcases Int.lt_trichotomy (f x) 0 with h0 | h0 | h0
      · have t0 : decide (f x < 0) = true := by simpa using h0
        have HI2 := Lib.hid (show ∀ j y, S[j]? = some y → (j < m + 1 → f y < 0) ∧ (hi ≤ j → 0 < f y) from fun j y hy => ⟨fun hj => by
          by_cases hjm : j < m
          · exact (HS.out j y hy hjm).1 (by omega)
          · obtain rfl : j = m := by omega
            have := HX.out
            rw [this] at hy
            cases hy
            exact h0, (HI.out j y hy).2⟩)
        clear h0 HS HS2 HI
        generalize f x = z at *
        go_wp2
        go_roundw
        case rel => exact ⟨m + 1, hi, by omega, hhn, by go_num, rfl, rfl, HI2, HB2⟩
        case measure => simp [intOf]; omega
      · have t0 : decide (f x < 0) = false := by simp; omega
        have t1 : decide (0 < f x) = false := by simp; omega
        have PE := Lib.hid (show Placed S f m true from ⟨by omega, fun _ => ⟨x, HX.out, h0⟩, by simp⟩)
        clear h0 HS HS2 HI
        generalize f x = z at *
        go_wp2
        try rw [Exit.noGoto_ret]
        go_ret2
        exact ⟨m, true, PE.out, rfl, HB2.out⟩
      · have t0 : decide (f x < 0) = false := by simp; omega
        have t1 : decide (0 < f x) = true := by simpa using h0
        have HI2 := Lib.hid (show ∀ j y, S[j]? = some y → (j < lo → f y < 0) ∧ (m ≤ j → 0 < f y) from fun j y hy => ⟨(HI.out j y hy).1, fun hj => by
          by_cases hjm : m < j
          · exact (HS2.out j y hy hjm).2 (by omega)
          · obtain rfl : j = m := by omega
            have := HX.out
            rw [this] at hy
            cases hy
            exact h0⟩)
        clear h0 HS HS2 HI
        generalize f x = z at *
        go_wp2
        go_roundw
        case rel => exact ⟨lo, m, by omega, by omega, rfl, rfl, rfl, HI2, HB2⟩
        case measure => simp [intOf]; omega
    · obtain rfl : lo = hi := by omega
      have PE := Lib.hid (show Placed S f lo false from ⟨hhn, by simp, fun _ => HI.out⟩)
      clear HI
      go_wp2
      try rw [Exit.noGoto_ret]
      go_ret2
      exact ⟨lo, false, PE.out, rfl, HB.out⟩
end Se
end Go.Proofs.Ytfmnbmjfkplieaa
