/- Walks over package fefo: the lots of a product, the order. Condition: what the places in order are told as. -/
import Derived.Test.YtclpdemhfbjliaaFfPd
import Derived.Test.YtclpdemhfbjliaaRwApp
namespace Go.Proofs.Ytclpdemhfbjliaa
open Go.RowKit Lo

namespace Ff
theorem lcells_ones (y : Lv) : ∀ u ∈ lcells y, u.oneCell' = true := by
  intro u hu
  simp only [lcells, List.mem_cons, List.not_mem_nil, or_false] at hu
  rcases hu with rfl | rfl | rfl | rfl | rfl | rfl | rfl | rfl <;> rfl
theorem ncells_ones (x : Int) : ∀ u ∈ ncells x, u.oneCell' = true := by
  intro u hu
  simp only [ncells, List.mem_cons, List.not_mem_nil, or_false] at hu
  subst hu
  rfl
theorem infoLt : (Try.prog.info? 41).map (fun i => (i.zero, i.size, i.bytes)) = some (some (.agg #[.int .i64 0, .int .i64 0, .int .i64 0, .int .i64 0, .int .i64 0, .int .i64 0, .int .i64 0, .slice none 0 0]), 8, 80) := by kernel_rfl
/-- The lots of a product, as they stand. -/
def isB (pr : Int) (y : Lv) : Bool := decide (y.x.product = pr)
def ofLv (L : List Lv) (pr : Int) : List Lv := L.filter (isB pr)
theorem ofLv_lts (L : List Lv) (pr : Int) : lts (ofLv L pr) = (lts L).filter fun x => decide (x.product = pr) := by
  unfold lts ofLv
  rw [List.filter_map]
  rfl
theorem ofLv_le (L : List Lv) (pr : Int) : (ofLv L pr).length ≤ L.length := List.length_filter_le _ _
theorem ofLv_next {L : List Lv} {pr : Int} {k : Nat} {y : Lv} (hy : L[k]? = some y) : ofLv (L.take (k + 1)) pr = ofLv (L.take k) pr ++ if y.x.product = pr then [y] else [] := by
  unfold ofLv
  rw [List.take_add_one, hy, List.filter_append]
  congr 1
  by_cases h : y.x.product = pr <;> simp [h, isB]
def OfEnd (w : World) (L : List Lv) (pr : Int) (e : Ending) (w' : World) : Prop := ∃ q m d, e = .returned (.slice q m d) ∧ (ofLv L pr).length = m ∧ w'.ownsRow w.heap.size 41 8 (.slice q m d) m ((ofLv L pr).flatMap lcells) ∧ Below w.heap.size w w'
set_option maxRecDepth 100000 in
set_option maxHeartbeats 8000000 in
theorem of_any (p : Option Addr) (n c : Nat) (L : List Lv) (pr : Int) (w : World) (hA : Rw 8 lcells w p n L) (hn : n ≤ 1000000) :
    Calls Try.prog 14 #[.slice p n c, .int .i64 pr] w (OfEnd w L pr) := by
  obtain ⟨i0, hi0, hz0, hz1, hz2⟩ := info_parts infoLt
  have hn' : (n : Int) ≤ 1000000 := by omega
  have HH := Lib.hid hA
  have HN := Lib.hid hA.1
  have B0 := Lib.hid (Below.refl w.heap.size w)
  clear hA
  go_enter Try.func14, Try.ntmps14
  go_wp2_with fail
  go_loopw [5, 10] (fun v i wr => ∃ (k m : Nat) (q : Option Addr) (d : Nat), k ≤ n ∧ m ≤ k ∧ v = .slice q m d ∧ i = .int .i64 k ∧ Hid ((ofLv (L.take k) pr).length = m) ∧ Hid (wr.ownsRow w.heap.size 41 8 (.slice q m d) m ((ofLv (L.take k) pr).flatMap lcells)) ∧ Hid (Below w.heap.size w wr)) (fun _ i _ => n - (RowKit.intOf i).toNat)
  case atStart => exact ⟨0, 0, none, 0, Nat.zero_le _, Nat.zero_le _, rfl, rfl, Lib.hid (by simp [ofLv]), Lib.hid (by simpa [ofLv] using World.ownsRow_nil _ w.heap.size 41 8), B0⟩
  case round =>
    clear B0
    obtain ⟨k, m, q, d, hk, hm, rfl, rfl, HM, OR, BR⟩ := hrel
    by_cases hlt : k < n
    · have hk3 : (k : Int) < (n : Int) := by omega
      have hm3 : (m : Int) ≤ (k : Int) := by omega
      obtain ⟨y, hy⟩ : ∃ y, L[k]? = some y := ⟨_, List.getElem?_eq_getElem (by rw [HN.out]; exact hlt)⟩
      obtain ⟨b, o, rfl, e0, e1, e2, e3, e4, e5, e6, e7⟩ := lv8_at (HH.out.keep lcells_len BR.out) hy
      have MN := ofLv_next (pr := pr) hy
      obtain ⟨⟨a0, a1, a2, a3, a4, a5, a6, st⟩, q0, m0, c0⟩ := y
      simp only at e0 e1 e2 e3 e4 e5 e6 e7 MN
      have hsr := BR.out.size
      clear hy
      by_cases hp : a1 = pr
      · rw [if_pos hp] at MN
        have t1 : (a1 == pr) = true := by simp [hp]
        have MH := Lib.hid MN
        have RW1 : Hid (Rw 8 lcells ((wr.alloc (.cells #[.int .i64 a0, .int .i64 a1, .int .i64 a2, .int .i64 a3, .int .i64 a4, .int .i64 a5, .int .i64 a6, .slice q0 m0 c0] 41)).alloc (.cells #[.int .i64 a0, .int .i64 a1, .int .i64 a2, .int .i64 a3, .int .i64 a4, .int .i64 a5, .int .i64 a6, .slice q0 m0 c0] 41)) (some ⟨wr.heap.size + 1, 0, none⟩) 1 [⟨⟨a0, a1, a2, a3, a4, a5, a6, st⟩, q0, m0, c0⟩]) := Lib.hid (by
          have h1 := Ra.rw_one (k := 8) (enc := lcells) (wr.alloc (.cells #[.int .i64 a0, .int .i64 a1, .int .i64 a2, .int .i64 a3, .int .i64 a4, .int .i64 a5, .int .i64 a6, .slice q0 m0 c0] 41)) 41 (⟨⟨a0, a1, a2, a3, a4, a5, a6, st⟩, q0, m0, c0⟩ : Lv)
          rwa [show (wr.alloc (.cells #[.int .i64 a0, .int .i64 a1, .int .i64 a2, .int .i64 a3, .int .i64 a4, .int .i64 a5, .int .i64 a6, .slice q0 m0 c0] 41)).heap.size = wr.heap.size + 1 by simp] at h1)
        clear MN hp
        go_wp2_with (at_builtin; refine Ra.wpList_app lcells_len lcells_ones Try.underlying22 hi0 hz0 hz1 hz2 rfl (by decide) rfl _ _ rfl ((OR.out.alloc (.cells #[.int .i64 a0, .int .i64 a1, .int .i64 a2, .int .i64 a3, .int .i64 a4, .int .i64 a5, .int .i64 a6, .slice q0 m0 c0] 41)).alloc _) rfl RW1.out rfl (by unfold maxLen; omega) (by omega) (by simp; omega) ?_; intro q2 d2 w3 hown2 hg2 _; have B3 := Lib.hid (((BR.out.alloc hsr (.cells #[.int .i64 a0, .int .i64 a1, .int .i64 a2, .int .i64 a3, .int .i64 a4, .int .i64 a5, .int .i64 a6, .slice q0 m0 c0] 41)).alloc (by simp; omega) (.cells (lcells (⟨⟨a0, a1, a2, a3, a4, a5, a6, st⟩, q0, m0, c0⟩ : Lv)).toArray 41)).grown hg2 (by simp; omega) (fun k hk => (own_lt OR.out hk).1)); have O3 := Lib.hid hown2; clear hown2 hg2)
        try go_wp2
        go_roundw
        case rel => exact ⟨k + 1, m + 1, q2, d2, by omega, by omega, rfl, by go_num, Lib.hid (by rw [MH.out, List.length_append, HM.out]; rfl), by rw [MH.out]; exact O3, B3⟩
        case measure => simp [RowKit.intOf]; omega
      · rw [if_neg hp, List.append_nil] at MN
        have t1 : (a1 == pr) = false := by simp [hp]
        have MH := Lib.hid MN
        have B3 := Lib.hid (BR.out.alloc hsr (.cells #[.int .i64 a0, .int .i64 a1, .int .i64 a2, .int .i64 a3, .int .i64 a4, .int .i64 a5, .int .i64 a6, .slice q0 m0 c0] 41))
        have O3 := Lib.hid (OR.out.alloc (.cells #[.int .i64 a0, .int .i64 a1, .int .i64 a2, .int .i64 a3, .int .i64 a4, .int .i64 a5, .int .i64 a6, .slice q0 m0 c0] 41))
        clear MN hp
        go_wp2
        go_roundw
        case rel => exact ⟨k + 1, m, q, d, by omega, by omega, rfl, by go_num, Lib.hid (by rw [MH.out]; exact HM.out), by rw [MH.out]; exact O3, B3⟩
        case measure => simp [RowKit.intOf]; omega
    · obtain rfl : k = n := by omega
      have hT : L.take k = L := List.take_of_length_le (by rw [HN.out]; exact Nat.le_refl _)
      rw [hT] at HM OR
      clear hT
      go_wp2
      go_ret
      exact ⟨q, m, d, rfl, HM.out, OR.out, BR.out⟩
/-- What the places in order are told as. -/
def OutAny : Prop := ∀ (p : Option Addr) (n c : Nat) (L : List Lv) (w : World), Rw 8 lcells w p n L → n ≤ 1000000 → Calls Try.prog 12 #[.slice p n c] w (OutEnd w (lts L))
/-- A place that comes at a number, where it lies, and its lot. -/
theorem pl_at {w : World} {q : Option Addr} {n : Nat} {L : List Lv} (h : Rw 1 pcells w q n (places (lts L))) {k : Nat} (hk : k < n) :
    ∃ g o i y, q = some ⟨g, o, none⟩ ∧ w.cell? ⟨g, o + k, none⟩ = some (.int .i64 ((i : Nat) : Int)) ∧ i < L.length ∧ L[i]? = some y ∧ (isort (lts L))[k]? = some y.x := by
  obtain ⟨g, o, e, hc⟩ := h.2 (by omega)
  obtain ⟨i, hi⟩ : ∃ i, (places (lts L))[k]? = some i := ⟨_, List.getElem?_eq_getElem (by rw [h.1]; exact hk)⟩
  have h1 := hc k i hi 0 (by decide)
  rw [Nat.mul_one, Nat.add_zero] at h1
  obtain ⟨h2, h3⟩ := places_at hi
  have hl : i < L.length := by
    unfold lts at h2
    rwa [List.length_map] at h2
  obtain ⟨y, hy⟩ : ∃ y, L[i]? = some y := ⟨_, List.getElem?_eq_getElem hl⟩
  exact ⟨g, o, i, y, e, h1, hl, hy, by rw [h3]; exact lts_at hy⟩
set_option maxRecDepth 100000 in
set_option maxHeartbeats 8000000 in
theorem order_any (H : OutAny) (p : Option Addr) (n c : Nat) (L : List Lv) (w : World) (hA : Rw 8 lcells w p n L) (hn : n ≤ 1000000) :
    Calls Try.prog 6 #[.slice p n c] w (OrderEnd w (lts L)) := by
  obtain ⟨i0, hi0, hz0, hz1, hz2⟩ := info_parts infoN
  have hn' : (n : Int) ≤ 1000000 := by omega
  have HA := Lib.hid hA
  have HN := Lib.hid hA.1
  have HS := Lib.hid (show (lts L).length = n by unfold lts; rw [List.length_map]; exact hA.1)
  have F := Lib.hid (H p n c L w hA hn)
  clear hA H
  go_enter Try.func6, Try.ntmps6
  go_wp2_with fail
  refine F.out.mono ?_
  intro e w2 he
  obtain ⟨v, rfl, hv, hb⟩ := he
  have hv2 := hv
  rw [← places_len] at hv2
  obtain ⟨q, d, rfl, _, hr⟩ := rw_own pcells_len hv2
  rw [places_len, HS.out] at hr
  rw [places_len, HS.out]
  have RP := Lib.hid hr
  have B2 := Lib.hid hb
  have B0 := Lib.hid (Below.refl w2.heap.size w2)
  clear hv hv2 hr hb F
  go_wp2_with fail
  go_loopw [3, 9] (fun v i wr => ∃ (k : Nat) (q3 : Option Addr) (d3 : Nat), k ≤ n ∧ v = .slice q3 k d3 ∧ i = .int .i64 k ∧ Hid (wr.ownsRow w2.heap.size 3 1 (.slice q3 k d3) k ((((isort (lts L)).take k).map Lt.id).flatMap ncells)) ∧ Hid (Below w2.heap.size w2 wr)) (fun _ i _ => n - (RowKit.intOf i).toNat)
  case atStart => exact ⟨0, none, 0, Nat.zero_le _, rfl, rfl, Lib.hid (by simpa using World.ownsRow_nil _ w2.heap.size 3 1), B0⟩
  case round =>
    clear B0
    obtain ⟨k, q3, d3, hk, rfl, rfl, OR, BR⟩ := hrel
    by_cases hlt : k < n
    · have hk3 : (k : Int) < (n : Int) := by omega
      obtain ⟨g, og, i, y, rfl, c0, hil, hy, hx⟩ := pl_at (RP.out.keep pcells_len BR.out) hlt
      obtain ⟨b, o, rfl, e0, j1, j2, j3⟩ := lv_at (HA.out.keep lcells_len (B2.out.trans (BR.out.mono B2.out.size))) hy
      rw [HN.out] at hil
      have hi3 : (i : Int) < (n : Int) := by omega
      have TI := Lib.hid (take_id hx)
      generalize y.x.id = yi at *
      have hsr := BR.out.size
      have RW1 : Hid (Rw 1 ncells (wr.alloc (.cells #[.int .i64 yi] 3)) (some ⟨wr.heap.size, 0, none⟩) 1 [yi]) := Lib.hid (Ra.rw_one (k := 1) (enc := ncells) wr 3 yi)
      clear j1 j2 j3 hy hx
      go_wp2_with (at_builtin; refine Ra.wpList_app ncells_len ncells_ones Try.underlying24 hi0 hz0 hz1 hz2 rfl (by decide) rfl _ _ rfl (OR.out.alloc _) rfl RW1.out rfl (by unfold maxLen; omega) (by omega) (by simp; omega) ?_; intro q4 d4 w3 hown2 hg2 _; have B3 := Lib.hid ((BR.out.alloc hsr (.cells (ncells yi).toArray 3)).grown hg2 (by simp; omega) (fun k hk => (own_lt OR.out hk).1)); have O3 := Lib.hid hown2; clear hown2 hg2)
      try go_wp2
      go_roundw
      case rel => exact ⟨k + 1, q4, d4, by omega, rfl, by go_num, by rw [TI.out]; exact O3, B3⟩
      case measure => simp [RowKit.intOf]; omega
    · obtain rfl : k = n := by omega
      go_wp2
      go_ret
      refine ⟨.slice q3 k d3, rfl, ?_, B2.out.trans (BR.out.mono B2.out.size)⟩
      have := OR.out
      rw [List.take_of_length_le (by rw [isort_len, HS.out]; exact Nat.le_refl _)] at this
      rw [HS.out]
      exact own_floor this B2.out.size
end Ff
end Go.Proofs.Ytclpdemhfbjliaa
