/- Walks over Text and Parse of the document's answer; no condition but those written. -/
import Derived.Test.YtigohcfedmefbaaDoorW4
import Derived.LoopTactic
namespace Go.Proofs.YtigohcfedmefbaaDoor
open Go.RowKit Go.Sort

theorem right_yes (t : Int) (h1 : -1099511627776 ≤ t) (h2 : t ≤ 1099511627776) (w : World) :
    Calls Tryd.prog 22 #[.int .i64 t] w fun e w' => e = .returned (.bool true) ∧ w = w' := by
  go_enter Tryd.func22, Tryd.ntmps22
  go_wp2
  all_goals (go_ret; exact ⟨rfl, rfl⟩)
theorem right_no (t : Int) (h : t < -1099511627776 ∨ 1099511627776 < t) (w : World) :
    Calls Tryd.prog 22 #[.int .i64 t] w fun e w' => e = .returned (.bool false) ∧ w = w' := by
  rcases h with h | h
  · have h1 : ¬ -1099511627776 ≤ t := by omega
    go_enter Tryd.func22, Tryd.ntmps22
    go_wp2
    all_goals (go_ret; exact ⟨rfl, rfl⟩)
  · have h1 : ¬ t ≤ 1099511627776 := by omega
    have h2 : -1099511627776 ≤ t := by omega
    go_enter Tryd.func22, Tryd.ntmps22
    go_wp2
    all_goals (go_ret; exact ⟨rfl, rfl⟩)

theorem rfig_any (n : Int) (h0 : 0 ≤ n) (h1 : n ≤ 1099511627776) (w : World) :
    Calls Tryd.prog 23 #[.int .i64 n] w fun e w' => e = .returned (.string (Hf.bs (Lib.decDigits n.toNat))) ∧ Below w.heap.size w w' := by
  obtain ⟨m, rfl⟩ := Int.eq_ofNat_of_zero_le h0
  have hp : (1099511627776 : Nat) < 10 ^ (12 + 1) := by decide
  exact rfig 12 m (by omega) (by omega) w

theorem rtext_no (t : Int) (h : t < -1099511627776 ∨ 1099511627776 < t) (w : World) :
    Calls Tryd.prog 13 #[.int .i64 t] w fun e w' => e = .returned (.string { data := #[] }) ∧ w = w' := by
  go_enter Tryd.func13, Tryd.ntmps13
  go_wp2_with (go_at_call 22; refine (right_no _ h _).mono ?_; rintro e w' ⟨rfl, rfl⟩)
  go_ret
  exact ⟨rfl, rfl⟩

theorem neg_figL (t : Int) (h : 0 < t) : ({ data := #[45] } : ByteArray) ++ Hf.bs (Lib.decDigits (t / 10).toNat) ++ { data := #[46] } ++ Hf.bs (Lib.decDigits (t % 10).toNat) = Hf.bs (Hf.textL (-t)) := by
  have e1 : (t / 10).toNat = t.natAbs / 10 := by omega
  have e2 : (t % 10).toNat = t.natAbs % 10 := by omega
  have e3 : ({ data := #[46] } : ByteArray) = Hf.bs [46] := rfl
  have e4 : ({ data := #[45] } : ByteArray) = Hf.bs [45] := rfl
  rw [e1, e2, e3, e4, Hf.bs_append, Hf.bs_append, Hf.bs_append]
  unfold Hf.textL
  rw [if_pos (by omega), Int.natAbs_neg]
  rfl

set_option maxHeartbeats 400000 in
theorem rtext_yes (t : Int) (h : Hf.IsT t) (w : World) :
    Calls Tryd.prog 13 #[.int .i64 t] w fun e w' => e = .returned (.string (Hf.bs (Hf.textL t))) ∧ Below w.heap.size w w' := by
  obtain ⟨h1, h2⟩ := h
  by_cases hn : t < 0
  · obtain ⟨u, rfl⟩ : ∃ u : Int, t = -u := ⟨-t, by omega⟩
    have HE := Lib.hid (neg_figL u (by omega))
    have s1 := Hf.dig_size (u / 10).toNat (by omega)
    have s2 := Hf.dig_size (u % 10).toNat (by omega)
    have n1 : 0 < u := by omega
    have n2 : u ≤ 1099511627776 := by omega
    clear h1 h2 hn
    go_enter Tryd.func13, Tryd.ntmps13
    go_wp2_with (go_at_call 22; refine (right_yes _ (by omega) (by omega) _).mono ?_; rintro e w' ⟨rfl, rfl⟩)
    refine (rfig_any _ (by omega) (by omega) _).mono ?_
    rintro e w1 ⟨rfl, hb1⟩
    go_wp2_with fail
    refine (rfig_any _ (by omega) (by omega) _).mono ?_
    rintro e w2 ⟨rfl, hb2⟩
    have hb := bl_trans hb1 hb2
    clear hb1 hb2
    go_wp2
    go_ret
    exact ⟨ret_str HE.out, hb⟩
  · have hn' : 0 ≤ t := by omega
    have HE := Lib.hid (show Hf.bs (Lib.decDigits (t / 10).toNat) ++ { data := #[46] } ++ Hf.bs (Lib.decDigits (t % 10).toNat) = Hf.bs (Hf.textL t) by
      rw [figL_bs t hn']; unfold Hf.textL; rw [if_neg hn])
    have s1 := Hf.dig_size (t / 10).toNat (by omega)
    have s2 := Hf.dig_size (t % 10).toNat (by omega)
    go_enter Tryd.func13, Tryd.ntmps13
    go_wp2_with (go_at_call 22; refine (right_yes _ (by omega) (by omega) _).mono ?_; rintro e w' ⟨rfl, rfl⟩)
    refine (rfig_any _ (by omega) (by omega) _).mono ?_
    rintro e w1 ⟨rfl, hb1⟩
    go_wp2_with fail
    refine (rfig_any _ (by omega) (by omega) _).mono ?_
    rintro e w2 ⟨rfl, hb2⟩
    have hb := bl_trans hb1 hb2
    clear hb1 hb2
    go_wp2
    go_ret
    exact ⟨ret_str HE.out, hb⟩

theorem rparse_long (s : ByteArray) (h : 15 < s.size) (hm : s.size ≤ maxLen) (w : World) :
    Calls Tryd.prog 11 #[.string s] w fun e w' => e = .returned (.tuple #[.int .i64 0, .int .i64 2]) ∧ w = w' := by
  unfold maxLen at hm
  go_enter Tryd.func11, Tryd.ntmps11
  go_wp2
  go_ret2
  exact ⟨rfl, rfl⟩

/-- What one byte more does. -/
theorem step_facts (s : ByteArray) (k : Nat) (hlt : k < s.size) :
    (Hf.refN (s.data.toList.take (k + 1)) = Hf.stepN (Hf.refN (s.data.toList.take k)) s[k]) ∧
    (k = 0 ∧ s[k].toNat = 45 → Hf.mn s.data.toList (k + 1) = true) ∧ (¬ (k = 0 ∧ s[k].toNat = 45) → Hf.mn s.data.toList (k + 1) = Hf.mn s.data.toList k) := by
  have hts := Hf.take_snoc s k hlt
  have hget : s.data.toList[k]? = some s[k] := by simp [hlt]; rfl
  have hm0 : k = 0 → Hf.mn s.data.toList (k + 1) = decide (s[k].toNat = 45) := fun h => by
    subst h
    rw [← List.head?_eq_getElem?] at hget
    simp only [Hf.mn, hget]
    simp
    constructor
    · intro h; rw [h]; rfl
    · intro h; exact UInt8.toNat_inj.1 h
  refine ⟨by rw [hts, Hf.refN_snoc], fun ⟨h1, h2⟩ => ?_, fun h => ?_⟩
  · rw [hm0 h1]; simpa using h2
  · by_cases h1 : k = 0
    · rw [hm0 h1, decide_eq_false (fun h2 => h ⟨h1, h2⟩)]
      subst h1; rfl
    · simp [Hf.mn]; omega

set_option maxHeartbeats 1000000 in
theorem rparse_good (s : ByteArray) (h0 : s.toList.isEmpty = false) (h15 : s.size ≤ 15) (w : World)
    (hT : ∀ W, Calls Tryd.prog 13 #[.int .i64 (Hf.finN s.data.toList)] W fun e w' => e = .returned (.string s) ∧ Below W.heap.size W w') :
    Calls Tryd.prog 11 #[.string s] w fun e w' => e = .returned (.tuple #[.int .i64 (Hf.finN s.data.toList), .int .i64 0]) ∧ Below w.heap.size w w' := by
  have HT := Lib.hid hT
  clear hT
  go_enter Tryd.func11, Tryd.ntmps11
  go_wp2
  go_loop [4, 5, 6] (fun n m i => ∃ k : Nat, k ≤ s.size ∧ i = .int .i64 k ∧ n = .int .i64 (Hf.refN (s.data.toList.take k)) ∧ m = .bool (Hf.mn s.data.toList k)) (fun _ _ i => s.size - (intOf i).toNat)
  case atStart => exact ⟨0, Nat.zero_le _, rfl, rfl, by simp [Hf.mn]⟩
  case round =>
    obtain ⟨k, hk, rfl, rfl, rfl⟩ := hrel
    have hbd := Hf.refN_bd s.data.toList k (by omega)
    by_cases hlt : k < s.size
    · obtain ⟨hst, hmA, hmB⟩ := step_facts s k hlt
      have c256 : s[k].toNat < 256 := s[k].toNat_lt
      unfold Hf.stepN at hst
      by_cases hA : k = 0 ∧ s[k].toNat = 45
      · obtain ⟨rfl, h45⟩ := hA
        rw [if_neg (by omega)] at hst
        have HM := Lib.hid (hmA ⟨rfl, h45⟩)
        have HS := Lib.hid hst
        have t1 : ((s[0].toNat : Int) == 45) = true := by rw [h45]; rfl
        clear hmA hmB hst h45
        go_wp2
        go_round
        case rel => exact ⟨1, by omega, by go_num, by rw [HS.out], by rw [HM.out]⟩
        case measure => simp [intOf]; omega
      · have HM := Lib.hid (hmB hA)
        clear hmA hmB
        by_cases hD : 48 ≤ s[k].toNat ∧ s[k].toNat ≤ 57
        · rw [if_pos hD] at hst
          have HS := Lib.hid (show (10 * (Hf.refN (s.data.toList.take k) : Int) + ((s[k].toNat : Int) - 48)) = ((Hf.refN (s.data.toList.take (k + 1)) : Nat) : Int) by rw [hst]; omega)
          have d1 : (48 : Int) ≤ s[k].toNat := by omega
          have d2 : (s[k].toNat : Int) ≤ 57 := by omega
          clear hst
          rcases Nat.eq_zero_or_pos k with h0 | h0
          · have t1 : ((s[k].toNat : Int) == 45) = false := by simp; omega
            have t2 : ((k : Int) == 0) = true := by simp; omega
            have t3 := Lib.hid hA
            have t4 := Lib.hid h0
            clear hA h0
            go_wp2
            go_round
            case rel => exact ⟨k + 1, by omega, by go_num, by rw [HS.out], by rw [HM.out]⟩
            case measure => simp [intOf]; omega
          · have t1 : ((k : Int) == 0) = false := by simp; omega
            go_wp2
            go_round
            case rel => exact ⟨k + 1, by omega, by go_num, by rw [HS.out], by rw [HM.out]⟩
            case measure => simp [intOf]; omega
        · rw [if_neg hD] at hst
          have HS := Lib.hid hst
          clear hst
          rcases Nat.eq_zero_or_pos k with h0 | h0
          · have t1 : ((s[k].toNat : Int) == 45) = false := by simp; omega
            have t2 : ((k : Int) == 0) = true := by simp; omega
            clear h0
            rcases Nat.lt_or_ge s[k].toNat 48 with h1 | h1
            · have d1 : (s[k].toNat : Int) < 48 := by omega
              clear hD h1 hA
              go_wp2
              go_round
              case rel => exact ⟨k + 1, by omega, by go_num, by rw [HS.out], by rw [HM.out]⟩
              case measure => simp [intOf]; omega
            · have d1 : (48 : Int) ≤ s[k].toNat := by omega
              have d2 : (57 : Int) < s[k].toNat := by omega
              clear hD h1 hA
              go_wp2
              go_round
              case rel => exact ⟨k + 1, by omega, by go_num, by rw [HS.out], by rw [HM.out]⟩
              case measure => simp [intOf]; omega
          · have t1 : ((k : Int) == 0) = false := by simp; omega
            rcases Nat.lt_or_ge s[k].toNat 48 with h1 | h1
            · have d1 : (s[k].toNat : Int) < 48 := by omega
              clear hD h1 hA
              go_wp2
              go_round
              case rel => exact ⟨k + 1, by omega, by go_num, by rw [HS.out], by rw [HM.out]⟩
              case measure => simp [intOf]; omega
            · have d1 : (48 : Int) ≤ s[k].toNat := by omega
              have d2 : (57 : Int) < s[k].toNat := by omega
              clear hD h1 hA
              go_wp2
              go_round
              case rel => exact ⟨k + 1, by omega, by go_num, by rw [HS.out], by rw [HM.out]⟩
              case measure => simp [intOf]; omega
    · obtain rfl : k = s.size := by omega
      have hf : (if Hf.mn s.data.toList s.size then -(Hf.refN (s.data.toList.take s.size) : Int) else (Hf.refN (s.data.toList.take s.size) : Int)) = Hf.finN s.data.toList := by
        have hl : s.data.toList.length = s.size := by simp
        unfold Hf.finN
        rw [List.take_of_length_le (by rw [hl]; exact Nat.le_refl _), hl]
      cases hm : Hf.mn s.data.toList s.size
      · rw [hm] at hf
        simp only [Bool.false_eq_true, if_false] at hf
        have HT1 := HT.out
        rw [← hf] at HT1
        have HT2 := Lib.hid HT1
        have HF := Lib.hid hf
        clear hf HT1 HT
        go_wp2_with (go_at_call 13; refine (HT2.out _).mono ?_; rintro e w' ⟨rfl, hb⟩)
        go_ret2
        exact ⟨by rw [← HF.out]; rfl, hb⟩
      · rw [hm] at hf
        simp only [if_true] at hf
        have HT1 := HT.out
        rw [← hf] at HT1
        have HT2 := Lib.hid HT1
        have HF := Lib.hid hf
        clear hf HT1 HT
        go_wp2_with (go_at_call 13; refine (HT2.out _).mono ?_; rintro e w' ⟨rfl, hb⟩)
        go_ret2
        exact ⟨by rw [← HF.out]; rfl, hb⟩
set_option maxHeartbeats 1000000 in
theorem rparse_bad (s x : ByteArray) (hx : (!x.toList == s.toList) = true) (h15 : s.size ≤ 15) (w : World)
    (hT : ∀ W, Calls Tryd.prog 13 #[.int .i64 (Hf.finN s.data.toList)] W fun e w' => e = .returned (.string x) ∧ Below W.heap.size W w') :
    Calls Tryd.prog 11 #[.string s] w fun e w' => e = .returned (.tuple #[.int .i64 0, .int .i64 2]) ∧ Below w.heap.size w w' := by
  have HT := Lib.hid hT
  clear hT
  go_enter Tryd.func11, Tryd.ntmps11
  go_wp2
  go_loop [4, 5, 6] (fun n m i => ∃ k : Nat, k ≤ s.size ∧ i = .int .i64 k ∧ n = .int .i64 (Hf.refN (s.data.toList.take k)) ∧ m = .bool (Hf.mn s.data.toList k)) (fun _ _ i => s.size - (intOf i).toNat)
  case atStart => exact ⟨0, Nat.zero_le _, rfl, rfl, by simp [Hf.mn]⟩
  case round =>
    obtain ⟨k, hk, rfl, rfl, rfl⟩ := hrel
    have hbd := Hf.refN_bd s.data.toList k (by omega)
    by_cases hlt : k < s.size
    · obtain ⟨hst, hmA, hmB⟩ := step_facts s k hlt
      have c256 : s[k].toNat < 256 := s[k].toNat_lt
      unfold Hf.stepN at hst
      by_cases hA : k = 0 ∧ s[k].toNat = 45
      · obtain ⟨rfl, h45⟩ := hA
        rw [if_neg (by omega)] at hst
        have HM := Lib.hid (hmA ⟨rfl, h45⟩)
        have HS := Lib.hid hst
        have t1 : ((s[0].toNat : Int) == 45) = true := by rw [h45]; rfl
        clear hmA hmB hst h45
        go_wp2
        go_round
        case rel => exact ⟨1, by omega, by go_num, by rw [HS.out], by rw [HM.out]⟩
        case measure => simp [intOf]; omega
      · have HM := Lib.hid (hmB hA)
        clear hmA hmB
        by_cases hD : 48 ≤ s[k].toNat ∧ s[k].toNat ≤ 57
        · rw [if_pos hD] at hst
          have HS := Lib.hid (show (10 * (Hf.refN (s.data.toList.take k) : Int) + ((s[k].toNat : Int) - 48)) = ((Hf.refN (s.data.toList.take (k + 1)) : Nat) : Int) by rw [hst]; omega)
          have d1 : (48 : Int) ≤ s[k].toNat := by omega
          have d2 : (s[k].toNat : Int) ≤ 57 := by omega
          clear hst
          rcases Nat.eq_zero_or_pos k with h0 | h0
          · have t1 : ((s[k].toNat : Int) == 45) = false := by simp; omega
            have t2 : ((k : Int) == 0) = true := by simp; omega
            have t3 := Lib.hid hA
            have t4 := Lib.hid h0
            clear hA h0
            go_wp2
            go_round
            case rel => exact ⟨k + 1, by omega, by go_num, by rw [HS.out], by rw [HM.out]⟩
            case measure => simp [intOf]; omega
          · have t1 : ((k : Int) == 0) = false := by simp; omega
            go_wp2
            go_round
            case rel => exact ⟨k + 1, by omega, by go_num, by rw [HS.out], by rw [HM.out]⟩
            case measure => simp [intOf]; omega
        · rw [if_neg hD] at hst
          have HS := Lib.hid hst
          clear hst
          rcases Nat.eq_zero_or_pos k with h0 | h0
          · have t1 : ((s[k].toNat : Int) == 45) = false := by simp; omega
            have t2 : ((k : Int) == 0) = true := by simp; omega
            clear h0
            rcases Nat.lt_or_ge s[k].toNat 48 with h1 | h1
            · have d1 : (s[k].toNat : Int) < 48 := by omega
              clear hD h1 hA
              go_wp2
              go_round
              case rel => exact ⟨k + 1, by omega, by go_num, by rw [HS.out], by rw [HM.out]⟩
              case measure => simp [intOf]; omega
            · have d1 : (48 : Int) ≤ s[k].toNat := by omega
              have d2 : (57 : Int) < s[k].toNat := by omega
              clear hD h1 hA
              go_wp2
              go_round
              case rel => exact ⟨k + 1, by omega, by go_num, by rw [HS.out], by rw [HM.out]⟩
              case measure => simp [intOf]; omega
          · have t1 : ((k : Int) == 0) = false := by simp; omega
            rcases Nat.lt_or_ge s[k].toNat 48 with h1 | h1
            · have d1 : (s[k].toNat : Int) < 48 := by omega
              clear hD h1 hA
              go_wp2
              go_round
              case rel => exact ⟨k + 1, by omega, by go_num, by rw [HS.out], by rw [HM.out]⟩
              case measure => simp [intOf]; omega
            · have d1 : (48 : Int) ≤ s[k].toNat := by omega
              have d2 : (57 : Int) < s[k].toNat := by omega
              clear hD h1 hA
              go_wp2
              go_round
              case rel => exact ⟨k + 1, by omega, by go_num, by rw [HS.out], by rw [HM.out]⟩
              case measure => simp [intOf]; omega
    · obtain rfl : k = s.size := by omega
      have hf : (if Hf.mn s.data.toList s.size then -(Hf.refN (s.data.toList.take s.size) : Int) else (Hf.refN (s.data.toList.take s.size) : Int)) = Hf.finN s.data.toList := by
        have hl : s.data.toList.length = s.size := by simp
        unfold Hf.finN
        rw [List.take_of_length_le (by rw [hl]; exact Nat.le_refl _), hl]
      cases hm : Hf.mn s.data.toList s.size
      · rw [hm] at hf
        simp only [Bool.false_eq_true, if_false] at hf
        have HT1 := HT.out
        rw [← hf] at HT1
        have HT2 := Lib.hid HT1
        clear hf HT1 HT
        go_wp2_with (go_at_call 13; refine (HT2.out _).mono ?_; rintro e w' ⟨rfl, hb⟩)
        go_ret2
        exact ⟨rfl, hb⟩
      · rw [hm] at hf
        simp only [if_true] at hf
        have HT1 := HT.out
        rw [← hf] at HT1
        have HT2 := Lib.hid HT1
        clear hf HT1 HT
        go_wp2_with (go_at_call 13; refine (HT2.out _).mono ?_; rintro e w' ⟨rfl, hb⟩)
        go_ret2
        exact ⟨rfl, hb⟩

theorem rparse_yes (t : Int) (h : Hf.IsT t) (w : World) :
    Calls Tryd.prog 11 #[.string (Hf.bs (Hf.textL t))] w fun e w' => e = .returned (.tuple #[.int .i64 t, .int .i64 0]) ∧ Below w.heap.size w w' := by
  have hl := Hf.textL_len t h
  have hf : Hf.finN (Hf.bs (Hf.textL t)).data.toList = t := by rw [Hf.toList_bs]; exact Hf.finN_text t
  have := rparse_good (Hf.bs (Hf.textL t)) (by rw [ByteArray.toList_eq, Hf.toList_bs]; simp [Hf.textL_ne]) (by rw [Hf.bs_size]; omega) w (fun W => by rw [hf]; exact rtext_yes t h W)
  rw [hf] at this
  exact this

theorem rparse_no (s : ByteArray) (hm : s.size ≤ maxLen) (h : ∀ t, Hf.IsT t → Hf.textL t ≠ s.data.toList) (w : World) :
    Calls Tryd.prog 11 #[.string s] w fun e w' => e = .returned (.tuple #[.int .i64 0, .int .i64 2]) ∧ Below w.heap.size w w' := by
  by_cases hs : 15 < s.size
  · exact (rparse_long s hs hm w).mono fun e w' ⟨he, hw⟩ => ⟨he, hw ▸ Below.refl _ _⟩
  · have h15 : s.size ≤ 15 := by omega
    by_cases hT : Hf.IsT (Hf.finN s.data.toList)
    · exact rparse_bad s (Hf.bs (Hf.textL _)) (ne_bs (by rw [Hf.toList_bs]; exact h _ hT)) h15 w (fun W => rtext_yes _ hT W)
    · refine rparse_bad s { data := #[] } (ne_bs ?_) h15 w (fun W => (rtext_no _ ?_ W).mono fun e w' ⟨he, hw⟩ => ⟨he, hw ▸ Below.refl _ _⟩)
      · intro e
        apply hT
        have : s.data.toList = [] := by simpa using e.symm
        rw [this]
        constructor <;> decide
      · unfold Hf.IsT at hT; omega
end Go.Proofs.YtigohcfedmefbaaDoor
