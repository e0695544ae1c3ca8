/- Walks over package fefo: what may not be picked, the lots of a product, totals. No condition but those written. -/
import Derived.Test.YtclpdemhfbjliaaFfPb
import Derived.WalkSpells
namespace Go.Proofs.Ytclpdemhfbjliaa
open Go.RowKit Lo

namespace Ff
theorem lv8_at {w : World} {p : Option Addr} {n : Nat} {L : List Lv} (h : Rw 8 lcells w p n L) {k : Nat} {y : Lv} (hy : L[k]? = some y) :
    ∃ b o, p = some ⟨b, o, none⟩ ∧ w.cell? ⟨b, o + k * 8, none⟩ = some (.int .i64 y.x.id) ∧ w.cell? ⟨b, o + k * 8 + 1, none⟩ = some (.int .i64 y.x.product) ∧ w.cell? ⟨b, o + k * 8 + 2, none⟩ = some (.int .i64 y.x.units) ∧ w.cell? ⟨b, o + k * 8 + 3, none⟩ = some (.int .i64 y.x.expiry)
      ∧ w.cell? ⟨b, o + k * 8 + 4, none⟩ = some (.int .i64 y.x.grant) ∧ w.cell? ⟨b, o + k * 8 + 5, none⟩ = some (.int .i64 y.x.order) ∧ w.cell? ⟨b, o + k * 8 + 6, none⟩ = some (.int .i64 y.x.status) ∧ w.cell? ⟨b, o + k * 8 + 7, none⟩ = some (.slice y.p y.n y.c) := by
  have hk : k < L.length := (List.getElem?_eq_some_iff.1 hy).1
  obtain ⟨b, o, e, hc⟩ := h.2 (by rw [← h.1]; omega)
  exact ⟨b, o, e, hc k y hy 0 (by decide), hc k y hy 1 (by decide), hc k y hy 2 (by decide), hc k y hy 3 (by decide), hc k y hy 4 (by decide), hc k y hy 5 (by decide), hc k y hy 6 (by decide), hc k y hy 7 (by decide)⟩
/-- Has it units that none may have? -/
def badU (x : Lt) : Bool := decide (x.units < 1) || decide (1048576 < x.units)
set_option maxRecDepth 100000 in
set_option maxHeartbeats 4000000 in
theorem wrong_any (y : Lv) (w : World) : Calls Try.prog 16 #[lval y] w fun e w' => e = .returned (.bool (badU y.x)) ∧ Below w.heap.size w w' := by
  have B0 := Lib.hid (alloc_below w (.cells #[.int .i64 y.x.id, .int .i64 y.x.product, .int .i64 y.x.units, .int .i64 y.x.expiry, .int .i64 y.x.grant, .int .i64 y.x.order, .int .i64 y.x.status, .slice y.p y.n y.c] 41))
  unfold badU
  obtain ⟨⟨xi, xp, u, xe, xg, xo, xs, st⟩, q, m, d⟩ := y
  unfold lval
  simp only at B0 ⊢
  by_cases h1 : u < 1
  · have t1 : decide (u < 1) = true := by simpa using h1
    rw [t1]
    clear h1
    go_enter Try.func16, Try.ntmps16
    go_wp2
    go_ret
    exact ⟨rfl, B0.out⟩
  · have t1 : decide (u < 1) = false := by simpa using h1
    rw [t1]
    clear h1
    by_cases h2 : 1048576 < u
    · have t2 : decide (1048576 < u) = true := by simpa using h2
      have t3 : decide (u > 1048576) = true := t2
      rw [t2]
      clear h2
      go_enter Try.func16, Try.ntmps16
      go_wp2
      go_ret
      exact ⟨rfl, B0.out⟩
    · have t2 : decide (1048576 < u) = false := by simpa using h2
      have t3 : decide (u > 1048576) = false := t2
      rw [t2]
      clear h2
      go_enter Try.func16, Try.ntmps16
      go_wp2
      go_ret
      exact ⟨rfl, B0.out⟩
/-- Where the first one is that may not be. -/
def IdxEnd (l : List Lt) (w : World) (e : Ending) (w' : World) : Prop :=
  ∃ i : Int, e = .returned (.int .i64 i) ∧ decide (i ≥ 0) = l.any badU ∧ Below w.heap.size w w'
theorem any_take {l : List Lt} {k : Nat} {x : Lt} (hx : l[k]? = some x) (f : Lt → Bool) : (l.take (k + 1)).any f = ((l.take k).any f || f x) := by
  rw [List.take_add_one, hx, List.any_append]
  simp
set_option maxRecDepth 100000 in
set_option maxHeartbeats 8000000 in
theorem idx_any (p : Option Addr) (n c : Nat) (L : List Lv) (w : World) (h : Rw 8 lcells w p n L) (hn : n ≤ 1000000) :
    Calls Try.prog 19 #[.slice p n c, .func (.func 16) #[] #[]] w (IdxEnd (lts L) w) := by
  have hn' : (n : Int) ≤ 1000000 := by omega
  have HH := Lib.hid h
  have HN := Lib.hid h.1
  have HS := Lib.hid (show (lts L).length = n by unfold lts; rw [List.length_map]; exact h.1)
  clear h
  go_enter Try.func19, Try.ntmps19
  go_wp2
  go_loopw [8] (fun i wr => ∃ k : Nat, k ≤ n ∧ i = .int .i64 k ∧ Hid (((lts L).take k).any badU = false) ∧ Hid (Below w.heap.size w wr)) (fun i _ => n - (RowKit.intOf i).toNat)
  case atStart => exact ⟨0, Nat.zero_le _, rfl, Lib.hid (by simp), Lib.hid (Below.refl _ _)⟩
  case round =>
    obtain ⟨k, hk, rfl, HT, HB⟩ := hrel
    by_cases hlt : k < n
    · have hk3 : (k : Int) < (n : Int) := by omega
      obtain ⟨y, hy⟩ : ∃ y, L[k]? = some y := ⟨_, List.getElem?_eq_getElem (by rw [HN.out]; exact hlt)⟩
      obtain ⟨b, o, rfl, e0, e1, e2, e3, e4, e5, e6, e7⟩ := lv8_at (HH.out.keep lcells_len HB.out) hy
      have C := Lib.hid (wrong_any y wr)
      have A1 := any_take (lts_at hy) badU
      rw [HT.out, Bool.false_or] at A1
      unfold lval at C
      have HY := Lib.hid (lts_at hy)
      have AT : Hid ((lts L).any badU = true ∨ badU y.x = false) := Lib.hid (by
        cases hb : badU y.x with
        | false => exact .inr rfl
        | true => exact .inl (List.any_eq_true.2 ⟨y.x, List.mem_of_getElem? (lts_at hy), hb⟩))
      generalize badU y.x = bu at *
      have AN := Lib.hid A1
      generalize y.x.id = a0 at *
      generalize y.x.product = a1 at *
      generalize y.x.units = a2 at *
      generalize y.x.expiry = a3 at *
      generalize y.x.grant = a4 at *
      generalize y.x.order = a5 at *
      generalize y.x.status = a6 at *
      clear hy A1 HY
      go_wp2_with fail
      refine C.out.mono ?_
      rintro e w2 ⟨rfl, hb2⟩
      have B2 := Lib.hid (HB.out.trans (hb2.mono HB.out.size))
      clear hb2 e0 e1 e2 e3 e4 e5 e6 e7
      cases bu with
      | true =>
        have AA := Lib.hid (AT.out.resolve_right (by decide))
        clear AT AN C
        go_wp2
        go_ret
        exact ⟨(k : Int), rfl, by rw [AA.out]; simp, B2.out⟩
      | false =>
        clear AT C
        go_wp2
        go_roundw
        case rel => exact ⟨k + 1, by omega, by go_num, AN, B2⟩
        case measure => simp [RowKit.intOf]; omega
    · obtain rfl : k = n := by omega
      have hT : (lts L).take k = lts L := List.take_of_length_le (by rw [HS.out]; exact Nat.le_refl _)
      rw [hT] at HT
      clear hT
      go_wp2
      go_ret
      exact ⟨-1, rfl, by rw [HT.out]; decide, HB.out⟩
set_option maxHeartbeats 4000000 in
theorem has_any (p : Option Addr) (n c : Nat) (L : List Lv) (w : World) (h : Rw 8 lcells w p n L) (hn : n ≤ 1000000) :
    Calls Try.prog 15 #[.slice p n c, .func (.func 16) #[] #[]] w fun e w' => e = .returned (.bool ((lts L).any badU)) ∧ Below w.heap.size w w' := by
  have I := Lib.hid (idx_any p n c L w h hn)
  clear h
  go_enter Try.func15, Try.ntmps15
  go_wp2_with fail
  refine I.out.mono ?_
  intro e w2 he
  obtain ⟨i, rfl, hi, hb⟩ := he
  have HI := Lib.hid hi
  have HB := Lib.hid hb
  clear hi hb I
  go_wp2
  go_ret
  exact ⟨by rw [HI.out]; rfl, HB.out⟩
end Ff
end Go.Proofs.Ytclpdemhfbjliaa
