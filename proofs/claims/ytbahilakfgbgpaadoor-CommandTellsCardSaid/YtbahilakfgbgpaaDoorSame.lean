/- Whether two lists of bytes are one: the document's answer (layer 3). No condition but those written. -/
import Derived.Test.YtbahilakfgbgpaaDoorBytes
namespace Go.Proofs.YtbahilakfgbgpaaDoor
open Go.RowKit

theorem same_other (p q : Option Addr) (n m c d : Nat) (w : World) (h : ¬ n = m) :
    Calls Tryd.prog 10 #[.slice p n c, .slice q m d] w fun e w' => e = .returned (.bool false) ∧ w = w' := by
  have hd : ((n : Int) != (m : Int)) = true := by rw [bne_iff_ne]; omega
  go_enter Tryd.func10, Tryd.ntmps10
  go_wp2
  go_ret
  exact ⟨rfl, rfl⟩
theorem same_nil (p q : Option Addr) (c d : Nat) (w : World) : Calls Tryd.prog 10 #[.slice p 0 c, .slice q 0 d] w fun e w' => e = .returned (.bool true) ∧ w = w' := by
  go_enter Tryd.func10, Tryd.ntmps10
  go_wp2
  go_loop [5] (fun i => i = .int .i64 0) (fun _ => 0)
  case atStart => rfl
  case round =>
    obtain rfl := hrel
    go_wp2
    go_ret
    exact ⟨rfl, rfl⟩
theorem take_eq {l l2 : List Nat} {k : Nat} (h : l.take k = l2.take k) (hk : k < l.length) (hk2 : k < l2.length) (e : l.getD k 0 = l2.getD k 0) : l.take (k + 1) = l2.take (k + 1) := by
  rw [List.take_succ_eq_append_getElem hk, List.take_succ_eq_append_getElem hk2, h]
  simp only [List.getD_eq_getElem?_getD, List.getElem?_eq_getElem hk, List.getElem?_eq_getElem hk2, Option.getD_some] at e
  rw [e]
set_option maxRecDepth 100000 in
set_option maxHeartbeats 1000000 in
theorem same_some (b o b2 o2 n c d : Nat) (l l2 : List Nat) (w : World) (hn : l.length = n) (hn2 : l2.length = n) (hbig : n ≤ 9223372036854775807)
    (hc : ∀ j, j < n → w.cell? ⟨b, o + j, none⟩ = some (.int .u8 ((l.getD j 0 : Nat) : Int)))
    (hc2 : ∀ j, j < n → w.cell? ⟨b2, o2 + j, none⟩ = some (.int .u8 ((l2.getD j 0 : Nat) : Int))) :
    Calls Tryd.prog 10 #[.slice (some ⟨b, o, none⟩) n c, .slice (some ⟨b2, o2, none⟩) n d] w fun e w' => e = .returned (.bool (decide (l = l2))) ∧ ∃ m, w' = w.drewN m := by
  have HC := Lib.hid hc
  have HC2 := Lib.hid hc2
  have HN := Lib.hid hn
  have HN2 := Lib.hid hn2
  clear hc hc2 hn hn2
  go_enter Tryd.func10, Tryd.ntmps10
  go_wp2
  go_loopw [5] (fun i wr => ∃ k : Nat, k ≤ n ∧ i = .int .i64 k ∧ Hid (l.take k = l2.take k) ∧ ∃ m, wr = w.drewN m) (fun i _ => n - (RowKit.intOf i).toNat)
  case atStart => exact ⟨0, Nat.zero_le _, rfl, Lib.hid rfl, 0, rfl⟩
  case round =>
    obtain ⟨k, hk, rfl, HT, m, rfl⟩ := hrel
    by_cases hlt : k < n
    · have c1 := HC.out k hlt
      have c2 := HC2.out k hlt
      have T := Lib.hid (fun e => take_eq HT.out (by rw [HN.out]; exact hlt) (by rw [HN2.out]; exact hlt) e)
      have NE : ¬ l.getD k 0 = l2.getD k 0 → decide (l = l2) = false := fun h => by
        rw [decide_eq_false_iff_not]
        rintro rfl
        exact h rfl
      have NE' := Lib.hid NE
      clear NE
      generalize l.getD k 0 = u at *
      generalize l2.getD k 0 = v at *
      by_cases hs : u = v
      · have hd : ((u : Int) != (v : Int)) = false := by rw [bne_eq_false_iff_eq]; exact_mod_cast hs
        have HT2 := Lib.hid (T.out hs)
        clear hs T NE' HT
        go_wp2
        go_quiet (fail)
        go_wp2
        go_roundw
        case rel => exact ⟨k + 1, by omega, by go_num, HT2, _, rfl⟩
        case measure => simp [RowKit.intOf]; omega
      · have hd : ((u : Int) != (v : Int)) = true := by rw [bne_iff_ne]; exact_mod_cast hs
        have E := Lib.hid (NE'.out hs)
        clear hs
        go_wp2
        go_quiet (fail)
        go_wp2
        go_ret
        exact ⟨by rw [E.out]; rfl, _, World.drewN_drewN ..⟩
    · obtain rfl : k = n := by omega
      have E : decide (l = l2) = true := by
        rw [decide_eq_true_iff]
        have h := HT.out
        rwa [List.take_of_length_le (by rw [HN.out]; omega), List.take_of_length_le (by rw [HN2.out]; omega)] at h
      have E' := Lib.hid E
      clear E
      go_wp2
      go_ret
      exact ⟨by rw [E'.out]; rfl, m, rfl⟩
/-- Two lists are one. -/
theorem same_any (p q : Option Addr) (n m c d : Nat) (l l2 : List Nat) (w : World) (hn : n ≤ 9223372036854775807) (h : At w p n l) (h2 : At w q m l2) :
    Calls Tryd.prog 10 #[.slice p n c, .slice q m d] w fun e w' => e = .returned (.bool (decide (l = l2))) ∧ ∃ m, w' = w.drewN m := by
  by_cases hnm : n = m
  · subst hnm
    obtain ⟨hl, hx, hc⟩ := h
    obtain ⟨hl2, hx2, hc2⟩ := h2
    by_cases h0 : n = 0
    · subst h0
      obtain rfl : l = [] := List.eq_nil_of_length_eq_zero hl
      obtain rfl : l2 = [] := List.eq_nil_of_length_eq_zero hl2
      exact (same_nil p q c d w).mono fun e w' ⟨he, hw⟩ => ⟨by rw [he]; rfl, 0, hw.symm⟩
    · obtain ⟨b, o, rfl, hj⟩ := hc (by omega)
      obtain ⟨b2, o2, rfl, hj2⟩ := hc2 (by omega)
      exact same_some b o b2 o2 n c d l l2 w hl hl2 hn hj hj2
  · refine (same_other p q n m c d w hnm).mono fun e w' ⟨he, hw⟩ => ⟨?_, 0, hw.symm⟩
    rw [he]
    refine ret_bool (Eq.symm ?_)
    rw [decide_eq_false_iff_not]
    rintro rfl
    exact hnm (h.1.symm.trans h2.1)
theorem same_one (p q : Option Addr) (n c d : Nat) (l : List Nat) (w : World) (hn : n ≤ 1000000) (h : At w p n l) (h2 : At w q n l) :
    Calls Tryd.prog 10 #[.slice p n c, .slice q n d] w fun e w' => e = .returned (.bool true) ∧ Below w.heap.size w w' :=
  (same_any p q n n c d l l w (by omega) h h2).mono fun e w' ⟨he, k, hw⟩ => ⟨by rw [he]; simp, by rw [hw]; exact below_drewN (Below.refl _ w) k⟩
end Go.Proofs.YtbahilakfgbgpaaDoor
