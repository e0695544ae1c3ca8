/- Walks over package fefo: which of two places goes first. No condition but those written. -/
import Derived.Test.YtclpdemhfbjliaaFfFace
import Derived.Test.YtclpdemhfbjliaaFfPa
import Derived.StillTailTactics
import Derived.Sort.Grow
namespace Go.Proofs.Ytclpdemhfbjliaa
open Go.RowKit Lo

namespace Ff
theorem nan_any (x : Int) (w : World) : Calls Try.prog 35 #[.int .i64 x] w fun e w' => e = .returned (.bool false) ∧ w = w' := by
  have h : (x != x) = false := by simp
  go_enter Try.func35, Try.ntmps35
  go_wp2
  go_ret
  exact ⟨rfl, rfl⟩
theorem cmp_any (x y : Int) (w : World) : Calls Try.prog 24 #[.int .i64 x, .int .i64 y] w fun e w' => e = .returned (.int .i64 (cmpI x y)) ∧ w = w' := by
  unfold cmpI
  have N := Lib.hid (fun z W => nan_any z W)
  rcases Int.lt_trichotomy x y with h | h | h
  · rw [if_pos h]
    go_enter Try.func24, Try.ntmps24
    go_wp2_with (go_at_call 35; ((with_reducible refine (N.out _ _).mono ?_); rintro e w1 ⟨rfl, rfl⟩))
    go_ret
    exact ⟨rfl, rfl⟩
  · subst h
    rw [if_neg (by omega), if_neg (by omega)]
    have h : ¬ x < x := by omega
    go_enter Try.func24, Try.ntmps24
    go_wp2_with (go_at_call 35; ((with_reducible refine (N.out _ _).mono ?_); rintro e w1 ⟨rfl, rfl⟩))
    go_ret
    exact ⟨rfl, rfl⟩
  · rw [if_neg (by omega), if_pos h]
    have h' : ¬ x < y := by omega
    go_enter Try.func24, Try.ntmps24
    go_wp2_with (go_at_call 35; ((with_reducible refine (N.out _ _).mono ?_); rintro e w1 ⟨rfl, rfl⟩))
    go_ret
    exact ⟨rfl, rfl⟩
/-- cmp.Or of three. -/
theorem or3_any (x y z : Int) (b : Nat) (w : World) (hx : w.cell? ⟨b, 0, none⟩ = some (.int .i64 x)) (hy : w.cell? ⟨b, 1, none⟩ = some (.int .i64 y)) (hz : w.cell? ⟨b, 2, none⟩ = some (.int .i64 z)) :
    Calls Try.prog 23 #[.slice (some ⟨b, 0, none⟩) 3 3] w fun e w' => e = .returned (.int .i64 (orI3 x y z)) ∧ w = w' := by
  go_enter Try.func23, Try.ntmps23
  go_wp2
  go_loop [8] (fun i => ∃ k : Nat, k ≤ 3 ∧ i = .int .i64 k ∧ Hid (0 < k → x = 0) ∧ Hid (1 < k → y = 0) ∧ Hid (2 < k → z = 0)) (fun i => 3 - (RowKit.intOf i).toNat)
  case atStart => exact ⟨0, by omega, rfl, Lib.hid (by omega), Lib.hid (by omega), Lib.hid (by omega)⟩
  case round =>
    obtain ⟨k, hk, rfl, K1, K2, K3⟩ := hrel
    match k, hk with
    | 0, _ =>
      by_cases h : x = 0
      · have t0 : (x != 0) = false := by simp [h]
        have H := Lib.hid h
        clear h
        go_wp2
        go_round
        case rel => exact ⟨1, by omega, by go_num, Lib.hid (fun _ => H.out), Lib.hid (by omega), Lib.hid (by omega)⟩
        case measure => simp [RowKit.intOf]
      · have t0 : (x != 0) = true := by simp [h]
        have E := Lib.hid (show orI3 x y z = x from if_neg h)
        clear h
        go_wp2
        go_ret
        exact ⟨by rw [E.out]; rfl, rfl⟩
    | 1, _ =>
      have hx0 := K1.out (by omega)
      by_cases h : y = 0
      · have t0 : (y != 0) = false := by simp [h]
        have H := Lib.hid h
        have H2 := Lib.hid hx0
        clear h hx0
        go_wp2
        go_round
        case rel => exact ⟨2, by omega, by go_num, Lib.hid (fun _ => H2.out), Lib.hid (fun _ => H.out), Lib.hid (by omega)⟩
        case measure => simp [RowKit.intOf]
      · have t0 : (y != 0) = true := by simp [h]
        have E := Lib.hid (show orI3 x y z = y by unfold orI3; rw [if_pos hx0, if_neg h])
        clear h hx0
        go_wp2
        go_ret
        exact ⟨by rw [E.out]; rfl, rfl⟩
    | 2, _ =>
      have hx0 := K1.out (by omega)
      have hy0 := K2.out (by omega)
      by_cases h : z = 0
      · have t0 : (z != 0) = false := by simp [h]
        have H := Lib.hid h
        have H2 := Lib.hid hx0
        have H3 := Lib.hid hy0
        clear h hx0 hy0
        go_wp2
        go_round
        case rel => exact ⟨3, by omega, by go_num, Lib.hid (fun _ => H2.out), Lib.hid (fun _ => H3.out), Lib.hid (fun _ => H.out)⟩
        case measure => simp [RowKit.intOf]
      · have t0 : (z != 0) = true := by simp [h]
        have E := Lib.hid (show orI3 x y z = z by unfold orI3; rw [if_pos hx0, if_pos hy0])
        clear h hx0 hy0
        go_wp2
        go_ret
        exact ⟨by rw [E.out]; rfl, rfl⟩
    | 3, _ =>
      have E := Lib.hid (show orI3 x y z = 0 by unfold orI3; rw [if_pos (K1.out (by omega)), if_pos (K2.out (by omega)), K3.out (by omega)])
      go_wp2
      go_ret
      exact ⟨by rw [E.out]; rfl, rfl⟩
set_option maxRecDepth 100000 in
set_option maxHeartbeats 4000000 in
/-- The closure that places are sorted by. -/
theorem clos_any (p : Option Addr) (n c : Nat) (L : List Lv) (x y g : Nat) (w : World) (hbox : w.cell? ⟨g, 0, none⟩ = some (.slice p n c)) (hA : Rw 8 lcells w p n L) (hn : n ≤ 1000000) (hx : x < n) (hy : y < n) :
    Calls Try.prog 22 #[.int .i64 x, .int .i64 y, .pointer (some ⟨g, 0, none⟩)] w fun e w' => e = .returned (.int .i64 (cmpL (lts L) x y)) ∧ ∃ q os, w' = Sort.grow (w.drewN q) os := by
  obtain ⟨yx, hyx⟩ : ∃ y, L[x]? = some y := ⟨_, List.getElem?_eq_getElem (by rw [hA.1]; exact hx)⟩
  obtain ⟨yy, hyy⟩ : ∃ z, L[y]? = some z := ⟨_, List.getElem?_eq_getElem (by rw [hA.1]; exact hy)⟩
  have E : cmpL (lts L) x y = orI3 (cmpI yx.x.expiry yy.x.expiry) (cmpI yx.x.id yy.x.id) (cmpI x y) := by
    unfold cmpL
    rw [ltAt_of (lts_at hyx), ltAt_of (lts_at hyy)]
  rw [E]
  clear E
  obtain ⟨b, o, rfl, e0, j1, j2, e3⟩ := lv_at hA hyx
  obtain ⟨b', o', eq, f0, j3, j4, f3⟩ := lv_at hA hyy
  cases eq
  clear j1 j2 j3 j4 hyx hyy hA
  generalize yx.x.expiry = ea at *
  generalize yx.x.id = ia at *
  generalize yy.x.expiry = eb at *
  generalize yy.x.id = ib at *
  have hn' : (n : Int) ≤ 1000000 := by omega
  have hx' : (x : Int) < (n : Int) := by omega
  have hy' : (y : Int) < (n : Int) := by omega
  have C0 := Lib.hid (cmp_any ea eb w.drew)
  have C1 := Lib.hid (cmp_any ia ib w.drew)
  have C2 := Lib.hid (cmp_any x y w.drew)
  have O := Lib.hid (fun W g (h0 : W.cell? ⟨g, 0, none⟩ = some (.int .i64 (cmpI ea eb))) (h1 : W.cell? ⟨g, 1, none⟩ = some (.int .i64 (cmpI ia ib))) (h2 : W.cell? ⟨g, 2, none⟩ = some (.int .i64 (cmpI x y))) => or3_any _ _ _ g W h0 h1 h2)
  generalize cmpI ea eb = c0 at *
  generalize cmpI ia ib = c1 at *
  generalize cmpI x y = c2 at *
  have k0 : Hid (Calls Try.prog 24 #[.int .i64 ea, .int .i64 eb] w.drew (fun e w'' => e = .returned (.int .i64 c0) ∧ w'' = w.drew)) := Lib.hid (C0.out.mono (fun _ _ h => ⟨h.1, h.2.symm⟩))
  have k1 : Hid (Calls Try.prog 24 #[.int .i64 ia, .int .i64 ib] w.drew (fun e w'' => e = .returned (.int .i64 c1) ∧ w'' = w.drew)) := Lib.hid (C1.out.mono (fun _ _ h => ⟨h.1, h.2.symm⟩))
  have k2 : Hid (Calls Try.prog 24 #[.int .i64 x, .int .i64 y] w.drew (fun e w'' => e = .returned (.int .i64 c2) ∧ w'' = w.drew)) := Lib.hid (C2.out.mono (fun _ _ h => ⟨h.1, h.2.symm⟩))
  clear C0 C1 C2
  go_enter Try.func22, Try.ntmps22
  go_wp2_with fail
  go_still_tail 25, (by kernel_rfl)
  repeat still_step
  still_call k0.out
  repeat still_step
  still_call k1.out
  repeat still_step
  still_call k2.out
  repeat still_step
  refine wpStill_nil ?_
  clear k0 k1 k2
  have X2 := Lies.new w 3 #[.int .i64 c0, .int .i64 c1, .int .i64 c2]
  have Z0 := Lib.hid (X2.cell 0)
  have Z1 := Lib.hid (X2.cell 1)
  have Z2 := Lib.hid (X2.cell 2)
  clear X2 e0 e3 f0 f3 hbox
  go_wp2_with fail
  refine (O.out (w.alloc (.cells #[.int .i64 c0, .int .i64 c1, .int .i64 c2] 3)).drew _ Z0.out Z1.out Z2.out).mono ?_
  rintro e w2 ⟨rfl, rfl⟩
  go_wp2
  go_ret
  refine ⟨rfl, 1, #[.cells #[.int .i64 c0, .int .i64 c1, .int .i64 c2] 3], ?_⟩
  rw [Sort.alloc_eq_grow]
  rfl
/-- The closure is made over a box that holds the list. -/
def ByEnd (w : World) (v : Value) (e : Ending) (w' : World) : Prop := e = .returned (.func (.func 22) #[] #[.pointer (some ⟨w.heap.size, 0, none⟩)]) ∧ w' = w.alloc (.cells #[v] 22)
theorem by_any (p : Option Addr) (n c : Nat) (w : World) : Calls Try.prog 18 #[.slice p n c] w (ByEnd w (.slice p n c)) := by
  go_enter Try.func18, Try.ntmps18
  go_wp2
  go_ret
  exact ⟨rfl, rfl⟩
def pcells (i : Nat) : List Value := [.int .i64 i]
theorem pcells_len (i : Nat) : (pcells i).length = 1 := rfl
/-- The places are told in a row of the call's own. -/
def OutEnd (w : World) (l : List Lt) (e : Ending) (w' : World) : Prop := ∃ v, e = .returned v ∧ w'.ownsRow w.heap.size 3 1 v l.length ((places l).flatMap pcells) ∧ Below w.heap.size w w'
end Ff
end Go.Proofs.Ytclpdemhfbjliaa
