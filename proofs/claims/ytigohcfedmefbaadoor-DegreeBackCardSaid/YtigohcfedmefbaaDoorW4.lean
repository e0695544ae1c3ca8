/- Parse in two words, and walks over the text functions of the document's answer. Condition: as in the text of the text functions. -/
import Derived.Test.YtigohcfedmefbaaDoorW3
namespace Go.Proofs.YtigohcfedmefbaaDoor
open Go.RowKit Go.Sort

theorem ne_bs {x s : ByteArray} (h : x.data.toList ≠ s.data.toList) : (!x.toList == s.toList) = true := by
  rw [ByteArray.toList_eq, ByteArray.toList_eq]; simpa using h

theorem parse_yes (t : Int) (h : Hf.IsT t) (w : World) (hr : Ready w) :
    Calls Tryd.prog 10 #[.string (Hf.bs (Hf.textL t))] w fun e w' => e = .returned (.tuple #[.int .i64 t, .int .i64 0]) ∧ Below w.heap.size w w' := by
  have hl := Hf.textL_len t h
  exact parse_good _ (by rw [Hf.bs_size]; omega) (by rw [Hf.bs_size]; omega) t (by rw [Hf.toList_bs]; exact Hf.atoi_cut t) w hr (fun W hW => text_yes t h W hW)

theorem parse_no (s : ByteArray) (hm : s.size ≤ maxLen) (h : ∀ t, Hf.IsT t → Hf.textL t ≠ s.data.toList) (w : World) (hr : Ready w) :
    Calls Tryd.prog 10 #[.string s] w fun e w' => e = .returned (.tuple #[.int .i64 0, .int .i64 2]) ∧ Below w.heap.size w w' := by
  by_cases hs : s.size < 3 ∨ 15 < s.size
  · exact (parse_short s hs hm w).mono fun e w' ⟨he, hw⟩ => ⟨he, hw ▸ Below.refl _ _⟩
  · have h3 : 3 ≤ s.size := by omega
    have h15 : s.size ≤ 15 := by omega
    cases ha : Lib.atoi (Hf.cutPt s.data.toList) with
    | none => exact parse_err s h3 h15 ha w hr
    | some n =>
      by_cases hT : Hf.IsT n
      · exact parse_bad s h3 h15 n ha w hr (Hf.bs (Hf.textL n)) (ne_bs (by rw [Hf.toList_bs]; exact h n hT)) (fun W hW => text_yes n hT W hW)
      · refine parse_bad s h3 h15 n ha w hr { data := #[] } (ne_bs ?_) (fun W hW => (text_no n ?_ W).mono fun e w' ⟨he, hw⟩ => ⟨he, hw ▸ Below.refl _ _⟩)
        · intro e
          have := congrArg List.length e
          simp at this; omega
        · unfold Hf.IsT at hT; omega

def dig (d : Nat) : UInt8 := UInt8.ofNat (48 + d)
/-- A slice of one byte, as a string. -/
theorem one_byte (d : Nat) (z : Int) (hz : z = 48 + (d : Int)) (h : d < 10) (w : World) : (convert 51 9 (.slice (some ⟨w.heap.size, 0, none⟩) 1 1)).run Tryd.prog (w.alloc (.cells #[.int .u8 z] 5)) = .ok (.string (Hf.bs [dig d])) (w.alloc (.cells #[.int .u8 z] 5)) := by
  refine run_convert_bytes_back (P := Tryd.prog) _ 51 9 5 ⟨w.heap.size, 0, none⟩ 1 [dig d] Tryd.underlying51 Tryd.underlying5 Tryd.underlying9 (fun j hj => ?_)
  have : j = 0 := by simp at hj; omega
  subst this
  subst hz
  have e := Joins.cell_alloc_mark_at w #[.int .u8 (48 + (d : Int))] 5 (0, 0) w.heap.size 0 rfl
  refine (show _ = _ from e).trans ?_
  have e2 : (dig d).toNat = 48 + d := by unfold dig; simp; omega
  simp [e2]

theorem rfig_bs (a b : List UInt8) : Hf.bs a ++ Hf.bs b = Hf.bs (a ++ b) := Hf.bs_append a b

/-- The document's answer's figures: those of the number. -/
theorem rfig (k : Nat) : ∀ (n : Nat), n < 10 ^ (k + 1) → n ≤ 1099511627776 → ∀ w, Calls Tryd.prog 23 #[.int .i64 n] w fun e w' => e = .returned (.string (Hf.bs (Lib.decDigits n))) ∧ Below w.heap.size w w' := by
  induction k with
  | zero =>
    intro n hk hn w
    have h10 : n < 10 := by simpa using hk
    have h10' : (n : Int) < 10 := by omega
    have hcv := one_byte n (48 + (n : Int) % 10) (by omega) h10
    have HE := Lib.hid (show Lib.decDigits n = [dig n] from Lib.decDigits_one h10)
    go_enter Tryd.func23, Tryd.ntmps23
    go_wp2
    go_ret
    exact ⟨ret_str (by rw [HE.out]), (Below.refl _ _).alloc (Nat.le_refl _) _⟩
  | succ k ih =>
    intro n hk hn w
    by_cases h10 : n < 10
    · have h10' : (n : Int) < 10 := by omega
      have hcv := one_byte n (48 + (n : Int) % 10) (by omega) h10
      have HE := Lib.hid (show Lib.decDigits n = [dig n] from Lib.decDigits_one h10)
      have IH := Lib.hid ih
      clear ih
      go_enter Tryd.func23, Tryd.ntmps23
      go_wp2
      go_ret
      exact ⟨ret_str (by rw [HE.out]), (Below.refl _ _).alloc (Nat.le_refl _) _⟩
    · have h10' : (10 : Int) ≤ n := by omega
      have hcv := one_byte (n % 10) (48 + (n : Int) % 10) (by omega) (by omega)
      have e1 : (n : Int) / 10 = ((n / 10 : Nat) : Int) := by omega
      have IH := Lib.hid (show ∀ W, Calls Tryd.prog 23 #[.int .i64 ((n : Int) / 10)] W fun e w' => e = .returned (.string (Hf.bs (Lib.decDigits (n / 10)))) ∧ Below W.heap.size W w' by
        rw [e1]; exact fun W => ih (n / 10) (by rw [Nat.pow_succ] at hk; omega) (by omega) W)
      have HE := Lib.hid (show Hf.bs (Lib.decDigits (n / 10)) ++ Hf.bs [dig (n % 10)] = Hf.bs (Lib.decDigits n) by
        rw [Hf.bs_append]; conv => rhs; rw [Lib.decDigits, dif_neg h10]
        rfl)
      have s1 := Hf.dig_size (n / 10) (by omega)
      have s2 : (Hf.bs [dig (n % 10)]).size ≤ 1 := by rw [Hf.bs_size]; simp
      clear ih e1
      go_enter Tryd.func23, Tryd.ntmps23
      go_wp2_with (go_at_call 23; refine (IH.out _).mono ?_; rintro e w' ⟨rfl, hb⟩)
      go_ret
      exact ⟨ret_str HE.out, ((Below.refl _ _).alloc (Nat.le_refl _) _).trans (hb.mono (by simp))⟩
end Go.Proofs.YtigohcfedmefbaaDoor
