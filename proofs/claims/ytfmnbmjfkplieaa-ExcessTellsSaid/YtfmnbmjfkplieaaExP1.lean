/- Walks over package excess: what is a tenth, what counts, sums and excesses. No condition but those written. -/
import Derived.Test.YtfmnbmjfkplieaaSeP8
import Derived.Test.YtfmnbmjfkplieaaExPa
import Derived.Test.YtfmnbmjfkplieaaSt2
namespace Go.Proofs.Ytfmnbmjfkplieaa
open Go.RowKit Se

namespace Ex
theorem xten_any (t : Int) (w : World) : Calls Try.prog 20 #[.int .i64 t] w fun e w' => e = .returned (.bool (tenB t)) ∧ w = w' := by
  have E : tenB t = (decide (-1099511627776 ≤ t) && decide (t ≤ 1099511627776)) := by
    rw [Bool.eq_iff_iff]
    simp [tenB]
  rw [E]
  clear E
  by_cases h1 : -1099511627776 ≤ t
  · rw [decide_eq_true h1]
    go_enter Try.func20, Try.ntmps20
    go_wp2
    all_goals
      go_ret
      exact ⟨rfl, rfl⟩
  · rw [decide_eq_false h1]
    have h1' : t < -1099511627776 := by omega
    go_enter Try.func20, Try.ntmps20
    go_wp2
    all_goals
      go_ret
      exact ⟨rfl, rfl⟩
/-- A minute that counts. -/
def cou (m : Int) : Int := max 0 (min m 1048576)
theorem cou_bd (m : Int) : 0 ≤ cou m ∧ cou m ≤ 1048576 := by unfold cou; omega
theorem counted_any (m : Int) (w : World) : Calls Try.prog 27 #[.int .i64 m] w fun e w' => e = .returned (.int .i64 (cou m)) ∧ w = w' := by
  go_enter Try.func27, Try.ntmps27
  go_wp2
  go_ret
  exact ⟨rfl, rfl⟩
theorem longer_any (s e k : Int) (w : World) (h0 : 0 ≤ s) (h1 : s ≤ 4611686018427387904) (h2 : 0 ≤ e) (h3 : e ≤ 2199023255552) (h4 : 0 ≤ k) (h5 : k ≤ 1048576) :
    Calls Try.prog 34 #[.int .i64 s, .int .i64 e, .int .i64 k] w fun x w' => x = .returned (.int .i64 (St.St.cap (s + e * k))) ∧ Below w.heap.size w w' := by
  have p0 : 0 ≤ e * k := Int.mul_nonneg h2 h4
  have p1 : e * k ≤ 2305843009213693952 := by
    have a1 : e * k ≤ 2199023255552 * k := Int.mul_le_mul_of_nonneg_right h3 h4
    omega
  have M := St.mul_any e k
  rw [St.St.fit_mid h2 (by omega), St.St.fit_mid h4 (by omega), St.St.cap_mid (by omega)] at M
  generalize e * k = p at *
  have M' := Lib.hid M
  have A := Lib.hid ((St.add_any w.heap.size 0 2 2 [s, p] (w.alloc (.cells #[.int .i64 s, .int .i64 p] 3)) (by simp) (by omega) (fun j hj => by
    match j, hj with
    | 0, _ => simp
    | 1, _ => simp)).mono (R' := fun x w' => x = .returned (.int .i64 (St.St.cap (s + p))) ∧ Below w.heap.size w w') fun x w' ⟨he, hw⟩ => by
      subst he; subst hw
      refine ⟨St.ret_int ?_, (Below.refl _ _).alloc (Nat.le_refl _) _⟩
      have e1 := St.St.fit_mid h0 h1
      have e2 := St.St.fit_mid p0 (by omega)
      simp [St.St.sum, e1, e2])
  clear M h0 h1 h2 h3 h4 h5 p0 p1
  go_enter Try.func34, Try.ntmps34
  go_wp2_with fail
  refine (M'.out _).mono ?_
  rintro x w1 ⟨rfl, rfl⟩
  go_wp2_with fail
  refine A.out.mono ?_
  rintro x w2 ⟨rfl, hb⟩
  have B := Lib.hid hb
  clear hb
  go_wp2
  go_ret
  exact ⟨rfl, B.out⟩
/-- How much too warm the air of a minute is. -/
def exm (wo ga lim : Int) (L : List Rd) (m : Int) : Int := max 0 (air wo ga L m - lim)
theorem exm_mild {wo ga lim : Int} {L : List Rd} (hm : mayB wo ga = true) (hr : ∀ x ∈ L, rightB x = true) (hl : tenB lim = true) : Mild (exm wo ga lim L) := fun m => by
  have h := air_bd hm hr m
  have hl' : -1099511627776 ≤ lim ∧ lim ≤ 1099511627776 := by simpa [tenB] using hl
  unfold exm
  omega
theorem exm_exc {wo ga lim : Int} {L : List Rd} {m : Int} (h0 : 0 ≤ m) (h1 : m < 1048576) : exc wo ga lim L m = exm wo ga lim L m := by
  unfold exc exm
  rw [if_neg (by omega)]
theorem excess_any (B h : Nat) (F : Nat → Prop) (wo ga lim : Int) (S : List Rd) (m : Int) (w : World) (hp : PSF w B h F wo ga S) (hs : Sorted S) (hr : ∀ x ∈ S, rightB x = true) (hm : mayB wo ga = true) (hl : tenB lim = true) (hL : S.length ≤ 1000) (h0 : 0 ≤ m) (h1 : m ≤ 1048576) :
    Calls Try.prog 35 #[.pointer (some ⟨h, 0, none⟩), .int .i64 lim, .int .i64 m] w fun e w' => e = .returned (.int .i64 (exm wo ga lim S m)) ∧ Below w.heap.size w w' := by
  have A := Lib.hid (face.airAt B h F wo ga S m w hp hs hr hm hL (by omega) (by omega))
  have hb := air_bd hm hr m
  have hl' : -1099511627776 ≤ lim ∧ lim ≤ 1099511627776 := by simpa [tenB] using hl
  have E := Lib.hid (show exm wo ga lim S m = St.St.fit (air wo ga S m - lim) by
    unfold exm
    by_cases h : air wo ga S m - lim < 0
    · rw [St.St.fit_neg h]
      omega
    · rw [St.St.fit_mid (by omega) (by omega)]
      omega)
  generalize air wo ga S m = u at *
  have T := Lib.hid (fun W => St.fit_any (u - lim) W)
  clear hp hs hr hm hl
  obtain ⟨hb1, hb2⟩ := hb
  obtain ⟨hl1, hl2⟩ := hl'
  go_enter Try.func35, Try.ntmps35
  go_wp2_with fail
  refine A.out.mono ?_
  rintro e w1 ⟨rfl, hb⟩
  have B1 := Lib.hid hb
  clear hb A
  go_wp2_with fail
  refine (T.out _).mono ?_
  rintro e w2 ⟨rfl, rfl⟩
  go_wp2
  go_ret
  exact ⟨by rw [E.out]; rfl, B1.out⟩
end Ex
end Go.Proofs.Ytfmnbmjfkplieaa
