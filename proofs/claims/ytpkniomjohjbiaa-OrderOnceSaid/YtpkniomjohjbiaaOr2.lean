/- Walks over the document's answer of layer 16: whether a list may be a book's; one more; another state. No condition but those written. -/
import Derived.Test.YtpkniomjohjbiaaOr1
import Derived.Test.YtpkniomjohjbiaaRwApp
namespace Go.Proofs.Ytpkniomjohjbiaa
open Go.RowKit

namespace Or
/-- A list's block. -/
def Bq (q : Option Addr) (m : Nat) (k : Nat) : Prop := 0 < m ∧ ∃ a, q = some a ∧ a.block = k
theorem own_bq {w : World} {B m d : Nat} {q : Option Addr} {t : TypeId} {xs : List Value} (h : w.ownsRow B t 4 (.slice q m d) m xs) : ∀ k, Bq q m k → B ≤ k := by
  rintro k ⟨h0, a, rfl, rfl⟩
  obtain ⟨b, c, e, h1, _⟩ := own_some h h0
  injection e with e
  rw [Option.some.inj e]
  exact h1
/-- What a list becomes: it is told, as it was, or in new memory. -/
def Told (w : World) (p : Option Addr) (n : Nat) (l : List Od) (q : Option Addr) (m d : Nat) (w' : World) : Prop := Rw 4 ocells w' q m l ∧ m ≤ d ∧ (∀ k, Bq q m k → Bq p n k ∨ w.heap.size ≤ k) ∧ Below w.heap.size w w'
theorem told_same {w w' : World} {p : Option Addr} {n c : Nat} {l : List Od} (h : Rw 4 ocells w p n l) (hc : n ≤ c) (hb : Below w.heap.size w w') : Told w p n l p n c w' := ⟨h.keep ocells_len hb, hc, fun _ hk => .inl hk, hb⟩
theorem made_od (w : World) : (w.alloc (.cells #[] 40)).ownsRow w.heap.size 40 4 (.slice (some ⟨w.heap.size, 0, none⟩) 0 0) 0 (([] : List Od).flatMap ocells) := World.ownsRow_made w #[] 0 (Nat.le_refl _) (Nat.zero_le _) rfl
theorem info_od : ∃ i, Try.prog.info? 40 = some i ∧ i.zero = some (.agg #[.int .i64 0, .int .i64 0, .int .i64 0, .int .i64 0]) ∧ i.size = 4 ∧ i.bytes = 32 := info_parts infoO
theorem own_cap {w : World} {B k m d : Nat} {q : Option Addr} {t : TypeId} {xs : List Value} (h : w.ownsRow B t k (.slice q m d) m xs) : m ≤ d := by
  rcases h.2 with ⟨e, rfl⟩ | ⟨g, cap, cur, e, _, _, hn, _⟩
  · exact Nat.zero_le _
  · injection e with _ _ e
    omega
theorem wantB_no {p u : Int} (h : wantB p u = false) : p < 1 ∨ 16 < p ∨ u < 1 ∨ 1048576 < u := by
  have := mt wantB_iff.2 (by rw [h]; exact Bool.false_ne_true)
  omega
set_option maxRecDepth 100000 in
set_option maxHeartbeats 8000000 in
theorem r16want_no (p : Option Addr) (n c : Nat) (product units : Int) (w : World) (hw : wantB product units = false) :
    Calls Try.prog 13 #[.slice p n c, .int .i64 product, .int .i64 units] w fun e w' => e = .returned (.tuple #[.slice p n c, .int .i64 0, .int .i64 1]) ∧ w = w' := by
  rcases wantB_no hw with h | h | h | h
  · have t0 : decide (product < 1) = true := decide_eq_true h
    clear h
    go_enter Try.func13, Try.ntmps13
    go_wp2
    go_ret3
    exact ⟨rfl, rfl⟩
  · by_cases c0 : product < 1
    · have t0 : decide (product < 1) = true := decide_eq_true c0
      clear h c0
      go_enter Try.func13, Try.ntmps13
      go_wp2
      go_ret3
      exact ⟨rfl, rfl⟩
    have t0 : decide (product < 1) = false := decide_eq_false c0
    clear c0
    have t1 : decide (16 < product) = true := decide_eq_true h
    clear h
    go_enter Try.func13, Try.ntmps13
    go_wp2
    go_ret3
    exact ⟨rfl, rfl⟩
  · by_cases c0 : product < 1
    · have t0 : decide (product < 1) = true := decide_eq_true c0
      clear h c0
      go_enter Try.func13, Try.ntmps13
      go_wp2
      go_ret3
      exact ⟨rfl, rfl⟩
    have t0 : decide (product < 1) = false := decide_eq_false c0
    clear c0
    by_cases c1 : 16 < product
    · have t1 : decide (16 < product) = true := decide_eq_true c1
      clear h c1
      go_enter Try.func13, Try.ntmps13
      go_wp2
      go_ret3
      exact ⟨rfl, rfl⟩
    have t1 : decide (16 < product) = false := decide_eq_false c1
    clear c1
    have t2 : decide (units < 1) = true := decide_eq_true h
    clear h
    go_enter Try.func13, Try.ntmps13
    go_wp2
    go_ret3
    exact ⟨rfl, rfl⟩
  · by_cases c0 : product < 1
    · have t0 : decide (product < 1) = true := decide_eq_true c0
      clear h c0
      go_enter Try.func13, Try.ntmps13
      go_wp2
      go_ret3
      exact ⟨rfl, rfl⟩
    have t0 : decide (product < 1) = false := decide_eq_false c0
    clear c0
    by_cases c1 : 16 < product
    · have t1 : decide (16 < product) = true := decide_eq_true c1
      clear h c1
      go_enter Try.func13, Try.ntmps13
      go_wp2
      go_ret3
      exact ⟨rfl, rfl⟩
    have t1 : decide (16 < product) = false := decide_eq_false c1
    clear c1
    by_cases c2 : units < 1
    · have t2 : decide (units < 1) = true := decide_eq_true c2
      clear h c2
      go_enter Try.func13, Try.ntmps13
      go_wp2
      go_ret3
      exact ⟨rfl, rfl⟩
    have t2 : decide (units < 1) = false := decide_eq_false c2
    clear c2
    have t3 : decide (1048576 < units) = true := decide_eq_true h
    clear h
    go_enter Try.func13, Try.ntmps13
    go_wp2
    go_ret3
    exact ⟨rfl, rfl⟩
set_option maxRecDepth 100000 in
set_option maxHeartbeats 8000000 in
theorem r16want_full (p : Option Addr) (n c : Nat) (product units : Int) (w : World) (hw : wantB product units = true) (hn : 64 ≤ n) :
    Calls Try.prog 13 #[.slice p n c, .int .i64 product, .int .i64 units] w fun e w' => e = .returned (.tuple #[.slice p n c, .int .i64 0, .int .i64 4]) ∧ w = w' := by
  obtain ⟨⟨h1, h2⟩, h3, h4⟩ := wantB_iff.1 hw
  have t0 : decide (product < 1) = false := by simp; omega
  have t1 : decide (16 < product) = false := by simp; omega
  have t2 : decide (units < 1) = false := by simp; omega
  have t3 : decide (1048576 < units) = false := by simp; omega
  have t4 : (64 : Int) ≤ (n : Int) := by omega
  clear hw hn h1 h2 h3 h4
  go_enter Try.func13, Try.ntmps13
  go_wp2
  go_ret3
  exact ⟨rfl, rfl⟩
set_option maxRecDepth 100000 in
set_option maxHeartbeats 8000000 in
theorem r16want_yes (p : Option Addr) (n c : Nat) (l : List Od) (product units : Int) (w : World) (h : Rw 4 ocells w p n l) (hw : wantB product units = true) (hn : n < 64) :
    Calls Try.prog 13 #[.slice p n c, .int .i64 product, .int .i64 units] w fun e w' => ∃ q d, e = .returned (.tuple #[.slice q (n + 1) d, .int .i64 ((n : Int) + 1), .int .i64 0]) ∧ w'.ownsRow w.heap.size 40 4 (.slice q (n + 1) d) (n + 1) ((l ++ [(⟨(n : Int) + 1, product, units, 0⟩ : Od)]).flatMap ocells) ∧ Below w.heap.size w w' := by
  obtain ⟨⟨h1, h2⟩, h3, h4⟩ := wantB_iff.1 hw
  obtain ⟨i0, hi0, hz0, hz1, hz2⟩ := info_od
  have t0 : decide (product < 1) = false := by simp; omega
  have t1 : decide (16 < product) = false := by simp; omega
  have t2 : decide (units < 1) = false := by simp; omega
  have t3 : decide (1048576 < units) = false := by simp; omega
  have t4 : (n : Int) < 64 := by omega
  have H := Lib.hid h
  clear hw h1 h2 h3 h4 h
  go_enter Try.func13, Try.ntmps13
  go_wp2_with (first | (at_builtin; refine Ra.wpList_app ocells_len ocells_one Try.underlying26 hi0 hz0 hz1 hz2 rfl (by decide) rfl _ _ rfl (made_od w) rfl (H.out.keep ocells_len (alloc_below w _)) rfl (by unfold maxLen; omega) (by omega) (by simp) ?_; intro q1 d1 w1 hown1 hg1 _; rw [Nat.zero_add, List.nil_append] at hown1; have O1 := Lib.hid hown1; have B1 := Lib.hid ((alloc_below w (.cells #[] 40)).grown hg1 (by simp) (fun k hk => (own_lt (made_od w) hk).1)); have hs1 := B1.out.size; clear hown1 hg1) | (at_builtin; refine Ra.wpList_app ocells_len ocells_one Try.underlying26 hi0 hz0 hz1 hz2 rfl (by decide) rfl _ _ rfl (O1.out.alloc _) rfl (Ra.rw_one w1 40 (⟨(n : Int) + 1, product, units, 0⟩ : Od)) rfl (by unfold maxLen; omega) (by omega) (by simp; omega) ?_; intro q2 d2 w2 hown2 hg2 _; have B2 := Lib.hid ((B1.out.alloc hs1 (.cells (ocells (⟨(n : Int) + 1, product, units, 0⟩ : Od)).toArray 40)).grown hg2 (by simp; omega) (fun k hk => (own_lt O1.out hk).1)); have O2 := Lib.hid hown2; clear hown2 hg2))
  go_ret3
  exact ⟨q2, d2, rfl, O2.out, B2.out⟩
theorem r16want_any (p : Option Addr) (n c : Nat) (l : List Od) (product units : Int) (w : World) (h : Rw 4 ocells w p n l) (hc : n ≤ c) :
    Calls Try.prog 13 #[.slice p n c, .int .i64 product, .int .i64 units] w fun e w' => ∃ q m d, e = .returned (.tuple #[.slice q m d, .int .i64 (wantF l product units).2.1, .int .i64 (wantF l product units).2.2]) ∧ Told w p n (wantF l product units).1 q m d w' := by
  have hl := h.1
  unfold wantF
  cases hw : wantB product units with
  | false =>
    rw [if_neg Bool.false_ne_true]
    exact (r16want_no p n c product units w hw).mono fun e w' ⟨he, hww⟩ => ⟨p, n, c, he, hww ▸ told_same h hc (Below.refl _ _)⟩
  | true =>
    rw [if_pos rfl, hl]
    by_cases hn : 64 ≤ n
    · rw [if_pos hn]
      exact (r16want_full p n c product units w hw hn).mono fun e w' ⟨he, hww⟩ => ⟨p, n, c, he, hww ▸ told_same h hc (Below.refl _ _)⟩
    · rw [if_neg hn]
      refine (r16want_yes p n c l product units w h hw (by omega)).mono ?_
      rintro e w' ⟨q, d, he, ho, hb⟩
      exact ⟨q, n + 1, d, he, own_od ho (by simp [hl]), own_cap ho, fun k hk => .inr (own_bq ho k hk), hb⟩
end Or
end Go.Proofs.Ytpkniomjohjbiaa
