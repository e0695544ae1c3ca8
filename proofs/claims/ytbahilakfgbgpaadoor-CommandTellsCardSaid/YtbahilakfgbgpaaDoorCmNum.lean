/- Commands in plain words: what may be, its bytes, the command of bytes; there and back. No condition but those written. -/
import Derived.Test.YtbahilakfgbgpaaDoorOcBk
import Derived.Test.YtbahilakfgbgpaaDoorCeNum
import Derived.IntWalk
namespace Go.Proofs.YtbahilakfgbgpaaDoor.Cm
open Oc

/-- A command. -/
structure Cm where
  kind : Int
  a : Int
  b : Int
  c : Int
  d : Int
  e : Int
  bytes : List Nat
deriving DecidableEq
def cm0 : Cm := ⟨0, 0, 0, 0, 0, 0, []⟩
/-- How many numbers a kind has. -/
def cnt (k : Int) : Int :=
  if k = 0 then 0
  else if k = 1 ∨ k = 8 ∨ k = 9 ∨ k = 11 ∨ k = 13 ∨ k = 14 ∨ k = 15 then 1
  else if k = 5 ∨ k = 6 ∨ k = 7 ∨ k = 10 ∨ k = 12 then 2
  else if k = 3 then 3 else if k = 4 then 4 else if k = 2 then 5 else -1
theorem cnt_bd (k : Int) : -1 ≤ cnt k ∧ cnt k ≤ 5 := by
  unfold cnt
  repeat' split
  all_goals omega
theorem cnt_yes {k : Int} (h : 0 ≤ cnt k) : 0 ≤ k ∧ k ≤ 15 := by
  unfold cnt at h
  repeat' split at h
  all_goals omega
theorem cnt_pos {k : Int} (h : 0 ≤ cnt k) (h0 : k ≠ 0) : 1 ≤ cnt k := by
  unfold cnt at *
  repeat' split at h
  all_goals simp_all
def nth (c : Cm) (i : Nat) : Int := match i with | 0 => c.a | 1 => c.b | 2 => c.c | 3 => c.d | _ => c.e
/-- May a command be? -/
def rightB (c : Cm) : Bool := decide (0 ≤ cnt c.kind ∧ c.bytes.length ≤ 64 ∧ (c.kind = 0 ∨ c.bytes = []) ∧ ∀ i : Nat, i < 5 → cnt c.kind ≤ (i : Int) → nth c i = 0)
theorem right_iff {c : Cm} : rightB c = true ↔ 0 ≤ cnt c.kind ∧ c.bytes.length ≤ 64 ∧ (c.kind = 0 ∨ c.bytes = []) ∧ ∀ i : Nat, i < 5 → cnt c.kind ≤ (i : Int) → nth c i = 0 := decide_eq_true_iff
def u64 (n : Int) : Nat := (IntKind.u64.wrap n).toNat
def I64 (n : Int) : Prop := -9223372036854775808 ≤ n ∧ n ≤ 9223372036854775807
theorem u64_is (n : Int) : IntKind.u64.wrap n = (u64 n : Int) ∧ u64 n < 18446744073709551616 := by
  have h : IntKind.u64.wrap n = n % 18446744073709551616 := by simp [IntKind.wrap, IntKind.bits, IntKind.signed]
  unfold u64
  rw [h]
  omega
theorem u64_back {n : Int} (h : I64 n) : IntKind.i64.wrap (u64 n : Int) = n := by
  have h1 : IntKind.u64.wrap n = n % 18446744073709551616 := by simp [IntKind.wrap, IntKind.bits, IntKind.signed]
  have h2 := (u64_is n).1
  rw [← h2, h1, IntKind.wrap_i64]
  unfold I64 at h
  omega
theorem i64_back {u : Nat} (h : u < 18446744073709551616) : u64 (IntKind.i64.wrap (u : Int)) = u ∧ I64 (IntKind.i64.wrap (u : Int)) := by
  have h1 := (u64_is (IntKind.i64.wrap (u : Int))).1
  have h2 : ∀ n : Int, IntKind.u64.wrap n = n % 18446744073709551616 := fun n => by simp [IntKind.wrap, IntKind.bits, IntKind.signed]
  rw [h2, IntKind.wrap_i64] at h1
  rw [IntKind.wrap_i64] at *
  unfold I64
  omega
/-- Its numbers, as bytes. -/
def numsL (c : Cm) (k : Nat) : List Nat := (List.range k).flatMap fun i => be 8 (u64 (nth c i))
def raw (c : Cm) : List Nat := be 1 c.kind.toNat ++ (numsL c (cnt c.kind).toNat ++ if c.kind = 0 then be 4 c.bytes.length ++ c.bytes else [])
theorem nums_len (c : Cm) : ∀ k, (numsL c k).length = 8 * k
  | 0 => rfl
  | k + 1 => by
    have h := nums_len c k
    unfold numsL at *
    rw [List.range_succ, List.flatMap_append, List.length_append, h]
    simp [be_length]
    omega
theorem nums_next (c : Cm) (k : Nat) : numsL c (k + 1) = numsL c k ++ be 8 (u64 (nth c k)) := by
  unfold numsL
  rw [List.range_succ, List.flatMap_append]
  simp
theorem nums_lt (c : Cm) (k : Nat) : ∀ x ∈ numsL c k, x < 256 := fun x hx => by
  unfold numsL at hx
  obtain ⟨i, _, h⟩ := List.mem_flatMap.1 hx
  exact be_lt 8 _ x h
/-- One number after the other, out of a reader. -/
def rd : Nat → Nat × List Nat → List Int × (Nat × List Nat)
  | 0, s => ([], s)
  | k + 1, s => ((rd k s).1 ++ [IntKind.i64.wrap ((rnum (rd k s).2 8).1 : Int)], (rnum (rd k s).2 8).2)
def cmOf (k : Int) (v : List Int) (b : List Nat) : Cm := ⟨k, v.getD 0 0, v.getD 1 0, v.getD 2 0, v.getD 3 0, v.getD 4 0, b⟩
/-- What is left of bytes behind the numbers. -/
def runOf (x : Nat) (s : Nat × List Nat) : List Nat × (Nat × List Nat) := if x = 0 then rrun s else ([], s)
/-- The command of bytes, and the error. -/
def dec : List Nat → Cm × Int
  | [] => (cm0, 2)
  | x :: r => if cnt x < 0 then (cm0, 2) else if rdone (runOf x (rd (cnt x).toNat (0, r)).2).2 ≠ 0 ∨ rightB (cmOf x (rd (cnt x).toNat (0, r)).1 (runOf x (rd (cnt x).toNat (0, r)).2).1) = false then (cm0, 2)
      else (cmOf x (rd (cnt x).toNat (0, r)).1 (runOf x (rd (cnt x).toNat (0, r)).2).1, 0)
theorem rd_len : ∀ (k : Nat) (s : Nat × List Nat), (rd k s).1.length = k
  | 0, _ => rfl
  | k + 1, s => by
    show ((rd k s).1 ++ [_]).length = k + 1
    rw [List.length_append, rd_len k s]
    rfl
theorem rnum_ok {r : List Nat} (h : 8 ≤ r.length) : rnum (0, r) 8 = (val (r.take 8), (0, r.drop 8)) := by
  simp [rnum, h]
theorem rnum_bad {r : List Nat} (h : r.length < 8) : (rnum (0, r) 8).2 = (2, []) := by
  have := rnum_cut (k := 8) (by decide) (by decide) h
  have e : ((8 : Nat) : Int) = 8 := rfl
  rw [e] at this
  rw [this]
theorem rnum_keep {s : Nat × List Nat} (h : s.1 ≠ 0) : (rnum s 8).2.1 ≠ 0 := by
  unfold rnum
  rw [if_pos h]
  exact h
theorem rd_ok {r : List Nat} : ∀ {k : Nat}, 8 * k ≤ r.length → rd k (0, r) = ((List.range k).map fun i => Ce.num r i, (0, r.drop (8 * k)))
  | 0, _ => by simp [rd]
  | k + 1, h => by
    have h1 := rd_ok (r := r) (k := k) (by omega)
    show ((rd k (0, r)).1 ++ [IntKind.i64.wrap ((rnum (rd k (0, r)).2 8).1 : Int)], (rnum (rd k (0, r)).2 8).2) = _
    rw [h1]
    have h2 : 8 ≤ (r.drop (8 * k)).length := by
      rw [List.length_drop]
      omega
    simp only
    rw [rnum_ok h2, List.range_succ, List.map_append, List.drop_drop]
    rfl
theorem rd_bad {r : List Nat} : ∀ {k : Nat}, r.length < 8 * k → (rd k (0, r)).2.1 ≠ 0
  | 0, h => by omega
  | k + 1, h => by
    show (rnum (rd k (0, r)).2 8).2.1 ≠ 0
    by_cases h1 : 8 * k ≤ r.length
    · rw [rd_ok h1]
      have h2 : (r.drop (8 * k)).length < 8 := by
        rw [List.length_drop]
        omega
      simp only
      rw [rnum_bad h2]
      decide
    · exact rnum_keep (rd_bad (by omega))
theorem rdone_zero {s : Nat × List Nat} : rdone s = 0 ↔ s.1 = 0 ∧ s.2 = [] := by
  unfold rdone
  constructor
  · intro h
    by_cases h1 : 0 < s.2.length
    · rw [if_pos h1] at h
      cases h
    · rw [if_neg h1] at h
      exact ⟨h, List.eq_nil_of_length_eq_zero (by omega)⟩
  · rintro ⟨h1, h2⟩
    rw [h2, h1]
    rfl
/-- The command of bytes of a kind with numbers. -/
theorem dec_nums {x : Nat} {r : List Nat} (hx : x ≠ 0) (hc : 0 ≤ cnt x) : dec (x :: r) = if r.length = 8 * (cnt x).toNat then (cmOf x ((List.range (cnt x).toNat).map fun i => Ce.num r i) [], 0) else (cm0, 2) := by
  show (if cnt x < 0 then (cm0, (2 : Int)) else _) = _
  rw [if_neg (by omega)]
  have hr : ∀ s, runOf x s = ([], s) := fun s => by unfold runOf; rw [if_neg hx]
  rw [hr]
  simp only
  by_cases h : r.length = 8 * (cnt x).toNat
  · rw [if_pos h, rd_ok (by omega)]
    have h0 : r.drop (8 * (cnt x).toNat) = [] := List.drop_of_length_le (by omega)
    rw [h0]
    have h1 : rightB (cmOf x ((List.range (cnt x).toNat).map fun i => Ce.num r i) []) = true := by
      rw [right_iff]
      refine ⟨hc, by simp [cmOf], .inr rfl, fun i hi hci => ?_⟩
      have hg : ((List.range (cnt x).toNat).map fun i => Ce.num r i).getD i 0 = 0 := by
        rw [List.getD_eq_getElem?_getD, List.getElem?_eq_none (by simp [cmOf] at hci ⊢; omega)]
        rfl
      match i, hi with
      | 0, _ => exact hg
      | 1, _ => exact hg
      | 2, _ => exact hg
      | 3, _ => exact hg
      | 4, _ => exact hg
    rw [if_neg]
    rw [h1]
    simp [rdone]
  · rw [if_neg h]
    by_cases h2 : 8 * (cnt x).toNat ≤ r.length
    · rw [rd_ok h2, if_pos]
      left
      intro e
      have := (rdone_zero.1 e).2
      simp only at this
      have h3 := congrArg List.length this
      rw [List.length_drop] at h3
      simp only [List.length_nil] at h3
      omega
    · rw [if_pos]
      left
      intro e
      exact rd_bad (by omega) (rdone_zero.1 e).1
theorem rrun_ok {r : List Nat} (h : 4 ≤ r.length) : rrun (0, r) = if val (r.take 4) ≤ r.length - 4 then ((r.drop 4).take (val (r.take 4)), (0, (r.drop 4).drop (val (r.take 4)))) else ([], (2, [])) := by
  have h1 : rnum (0, r) 4 = (val (r.take 4), (0, r.drop 4)) := by simp [rnum, h]
  unfold rrun
  rw [h1]
  simp only [ne_eq, not_true_eq_false, if_false, List.length_drop]
  by_cases h2 : val (r.take 4) ≤ r.length - 4
  · rw [if_pos h2, if_neg (by omega)]
  · rw [if_neg h2, if_pos (by omega)]
theorem rrun_bad {r : List Nat} (h : ¬ 4 ≤ r.length) : (rrun (0, r)).2.1 ≠ 0 := by
  have h1 : rnum (0, r) 4 = (0, (2, [])) := by
    have := rnum_cut (k := 4) (b := r) (by decide) (by decide) (by omega)
    exact this
  unfold rrun
  rw [h1]
  simp
/-- The command of a frame's bytes. -/
theorem dec_run (r : List Nat) : dec (0 :: r) = if 4 ≤ r.length ∧ val (r.take 4) = r.length - 4 ∧ r.length ≤ 68 then (⟨0, 0, 0, 0, 0, 0, r.drop 4⟩, 0) else (cm0, 2) := by
  show (if cnt ((0 : Nat) : Int) < 0 then (cm0, (2 : Int)) else _) = _
  rw [if_neg (by decide)]
  have e0 : (cnt ((0 : Nat) : Int)).toNat = 0 := by decide
  rw [e0]
  show (if rdone (rrun (0, r)).2 ≠ 0 ∨ rightB (cmOf ((0 : Nat) : Int) [] (rrun (0, r)).1) = false then (cm0, 2) else (cmOf ((0 : Nat) : Int) [] (rrun (0, r)).1, (0 : Int))) = _
  have hR : ∀ b, rightB (cmOf ((0 : Nat) : Int) [] b) = decide (b.length ≤ 64) := fun b => by
    rw [Bool.eq_iff_iff, right_iff, decide_eq_true_iff]
    constructor
    · exact fun h => h.2.1
    · intro h
      refine ⟨show (0 : Int) ≤ cnt 0 by decide, h, .inl rfl, fun i hi _ => ?_⟩
      match i, hi with
      | 0, _ => rfl
      | 1, _ => rfl
      | 2, _ => rfl
      | 3, _ => rfl
      | 4, _ => rfl
  rw [hR]
  by_cases h4 : 4 ≤ r.length
  · rw [rrun_ok h4]
    by_cases h5 : val (r.take 4) ≤ r.length - 4
    · rw [if_pos h5]
      simp only
      have hl : ((r.drop 4).take (val (r.take 4))).length = val (r.take 4) := by
        rw [List.length_take, List.length_drop]
        omega
      rw [hl]
      by_cases h6 : val (r.take 4) = r.length - 4
      · by_cases h7 : r.length ≤ 68
        · have h8 : (r.drop 4).drop (val (r.take 4)) = [] := List.drop_of_length_le (by rw [List.length_drop]; omega)
          have h9 : (r.drop 4).take (val (r.take 4)) = r.drop 4 := List.take_of_length_le (by rw [List.length_drop]; omega)
          have hL : ¬ (rdone (0, (r.drop 4).drop (val (r.take 4))) ≠ 0 ∨ decide (val (r.take 4) ≤ 64) = false) := by
            rw [h8]
            simp [rdone]
            omega
          rw [if_neg hL, if_pos ⟨h4, h6, h7⟩, h9]
          rfl
        · have hL : rdone (0, (r.drop 4).drop (val (r.take 4))) ≠ 0 ∨ decide (val (r.take 4) ≤ 64) = false := .inr (by
            rw [decide_eq_false_iff_not]
            omega)
          rw [if_pos hL, if_neg (fun h => h7 h.2.2)]
      · have hL : rdone (0, (r.drop 4).drop (val (r.take 4))) ≠ 0 ∨ decide (val (r.take 4) ≤ 64) = false := .inl (fun e => by
          have h3 := congrArg List.length (rdone_zero.1 e).2
          simp only [List.length_drop, List.length_nil] at h3
          omega)
        rw [if_pos hL, if_neg (fun h => h6 h.2.1)]
    · rw [if_neg h5]
      have hL : rdone (2, ([] : List Nat)) ≠ 0 ∨ decide (([] : List Nat).length ≤ 64) = false := .inl (by decide)
      rw [if_neg (fun h : 4 ≤ r.length ∧ val (r.take 4) = r.length - 4 ∧ r.length ≤ 68 => h5 (by omega))]
      exact if_pos hL
  · have hL : rdone (rrun (0, r)).2 ≠ 0 ∨ decide ((rrun (0, r)).1.length ≤ 64) = false := .inl (fun e => rrun_bad h4 (rdone_zero.1 e).1)
    rw [if_pos hL, if_neg (fun h => h4 h.1)]
/-- Each number of a command is one of 64 bits, its bytes are bytes. -/
def Wf (c : Cm) : Prop := (∀ i, I64 (nth c i)) ∧ ∀ x ∈ c.bytes, x < 256
theorem cm_ext {c : Cm} {k : Int} {v : List Int} {b : List Nat} (hk : c.kind = k) (h : ∀ i, i < 5 → v.getD i 0 = nth c i) (hb : c.bytes = b) : cmOf k v b = c := by
  obtain ⟨k', a1, a2, a3, a4, a5, b'⟩ := c
  simp only at hk hb
  subst hk hb
  have h0 := h 0 (by decide)
  have h1 := h 1 (by decide)
  have h2 := h 2 (by decide)
  have h3 := h 3 (by decide)
  have h4 := h 4 (by decide)
  simp only [nth] at h0 h1 h2 h3 h4
  unfold cmOf
  rw [h0, h1, h2, h3, h4]
theorem part_nums (c : Cm) : ∀ (k i : Nat) (r : List Nat), i < k → ((numsL c k ++ r).drop (8 * i)).take 8 = be 8 (u64 (nth c i))
  | 0, i, r, h => by omega
  | k + 1, i, r, h => by
    rw [nums_next, List.append_assoc]
    by_cases hk : i < k
    · exact part_nums c k i _ hk
    · obtain rfl : i = k := by omega
      rw [List.drop_left' (nums_len c i), List.take_left' (be_length 8 _)]
theorem be_one {n : Nat} (h : n < 256) : be 1 n = [n] := by
  show [n / 256 ^ 0 % 256] = [n]
  simp
  omega
theorem raw_cons {c : Cm} (h : rightB c = true) : raw c = c.kind.toNat :: (numsL c (cnt c.kind).toNat ++ if c.kind = 0 then be 4 c.bytes.length ++ c.bytes else []) := by
  have h1 := cnt_yes (right_iff.1 h).1
  unfold raw
  rw [be_one (by omega)]
  rfl
/-- There. -/
theorem dec_raw {c : Cm} (h : rightB c = true) (hw : Wf c) : dec (raw c) = (c, 0) := by
  obtain ⟨h1, h2, h3, h4⟩ := right_iff.1 h
  have hk := cnt_yes h1
  rw [raw_cons h]
  by_cases h0 : c.kind = 0
  · rw [if_pos h0, h0]
    have e : numsL c (cnt 0).toNat = [] := rfl
    rw [e, List.nil_append]
    show dec (0 :: _) = _
    rw [dec_run]
    have hl : (be 4 c.bytes.length ++ c.bytes).take 4 = be 4 c.bytes.length := List.take_left' (be_length 4 _)
    have hd : (be 4 c.bytes.length ++ c.bytes).drop 4 = c.bytes := List.drop_left' (be_length 4 _)
    rw [hl, hd, val_be (by omega), List.length_append, be_length, if_pos (by omega)]
    have hz : ∀ i, i < 5 → nth c i = 0 := fun i hi => h4 i hi (by rw [h0]; show (0 : Int) ≤ _; omega)
    have := cm_ext (c := c) (k := 0) (v := []) (b := c.bytes) h0 (fun i hi => by rw [hz i hi]; rfl) rfl
    exact congrArg (fun z => (z, (0 : Int))) this
  · rw [if_neg h0, List.append_nil]
    have e : ((c.kind.toNat : Nat) : Int) = c.kind := by omega
    rw [dec_nums (by omega) (by rw [e]; exact h1), e, if_pos (nums_len c _)]
    congr 1
    refine cm_ext rfl (fun i hi => ?_) (h3.resolve_left h0)
    by_cases hc : cnt c.kind ≤ (i : Int)
    · rw [h4 i hi hc, List.getD_eq_getElem?_getD, List.getElem?_eq_none (by simp; omega)]
      rfl
    · have hi2 : i < (cnt c.kind).toNat := by omega
      rw [List.getD_eq_getElem?_getD, List.getElem?_map, List.getElem?_range hi2]
      simp only [Option.map_some, Option.getD_some]
      unfold Ce.num
      have hp := part_nums c (cnt c.kind).toNat i [] hi2
      rw [List.append_nil] at hp
      rw [hp, val_be (by have := (u64_is (nth c i)).2; omega)]
      exact u64_back (hw.1 i)
theorem num_is {r : List Nat} (hx : ∀ x ∈ r, x < 256) {i : Nat} (hi : 8 * i + 8 ≤ r.length) : be 8 (u64 (Ce.num r i)) = (r.drop (8 * i)).take 8 ∧ I64 (Ce.num r i) := by
  have hl : ((r.drop (8 * i)).take 8).length = 8 := by
    rw [List.length_take, List.length_drop]
    omega
  have hp : ∀ x ∈ (r.drop (8 * i)).take 8, x < 256 := fun x hx' => hx x (List.mem_of_mem_drop (List.mem_of_mem_take hx'))
  have hv := val_lt hp
  rw [hl] at hv
  have hb := i64_back (u := Oc.val ((r.drop (8 * i)).take 8)) (by omega)
  unfold Ce.num
  rw [hb.1]
  exact ⟨Ce.be_list hl hp, hb.2⟩
theorem nums_back {r : List Nat} (hx : ∀ x ∈ r, x < 256) {c : Cm} : ∀ {k : Nat}, 8 * k ≤ r.length → (∀ i, i < k → nth c i = Ce.num r i) → numsL c k = r.take (8 * k)
  | 0, _, _ => rfl
  | k + 1, h, hn => by
    rw [nums_next, nums_back hx (k := k) (by omega) (fun i hi => hn i (by omega)), hn k (by omega), (num_is hx (by omega)).1, show 8 * (k + 1) = 8 * k + 8 by omega, List.take_add]
/-- And back. -/
theorem raw_dec {l : List Nat} (hx : ∀ x ∈ l, x < 256) (h : (dec l).2 = 0) : rightB (dec l).1 = true ∧ raw (dec l).1 = l ∧ Wf (dec l).1 := by
  cases l with
  | nil => cases h
  | cons x r =>
    have hr : ∀ y ∈ r, y < 256 := fun y hy => hx y (List.mem_cons_of_mem _ hy)
    have hx0 := hx x List.mem_cons_self
    by_cases h0 : x = 0
    · subst h0
      rw [dec_run] at h ⊢
      by_cases hc : 4 ≤ r.length ∧ val (r.take 4) = r.length - 4 ∧ r.length ≤ 68
      · rw [if_pos hc]
        obtain ⟨h4, h5, h6⟩ := hc
        have hR : rightB (⟨0, 0, 0, 0, 0, 0, r.drop 4⟩ : Cm) = true := by
          rw [right_iff]
          refine ⟨show (0 : Int) ≤ cnt 0 by decide, by simp; omega, .inl rfl, fun i hi _ => ?_⟩
          match i, hi with
          | 0, _ => rfl
          | 1, _ => rfl
          | 2, _ => rfl
          | 3, _ => rfl
          | 4, _ => rfl
        refine ⟨hR, ?_, ⟨fun i => ?_, fun y hy => hr y (List.mem_of_mem_drop hy)⟩⟩
        · rw [raw_cons hR]
          simp only
          rw [if_pos trivial]
          have e : numsL (⟨0, 0, 0, 0, 0, 0, r.drop 4⟩ : Cm) (cnt 0).toNat = [] := rfl
          rw [e, List.nil_append]
          have e2 : be 4 (r.drop 4).length = r.take 4 := by
            rw [List.length_drop, ← h5]
            have hl : (r.take 4).length = 4 := by
              rw [List.length_take]
              omega
            exact Ce.be_list hl (fun y hy => hr y (List.mem_of_mem_take hy))
          rw [e2, List.take_append_drop]
          rfl
        · unfold nth I64
          split <;> simp
      · rw [if_neg hc] at h
        cases h
    · by_cases hc : 0 ≤ cnt x
      · rw [dec_nums h0 hc] at h ⊢
        by_cases hl : r.length = 8 * (cnt x).toNat
        · rw [if_pos hl]
          generalize hk : (cnt x).toNat = k at *
          have hg : ∀ i, nth (cmOf (x : Int) ((List.range k).map fun i => Ce.num r i) []) i = if i < 5 then ((List.range k).map fun i => Ce.num r i).getD i 0 else ((List.range k).map fun i => Ce.num r i).getD 4 0 := fun i => by
            match i with
            | 0 => rfl
            | 1 => rfl
            | 2 => rfl
            | 3 => rfl
            | 4 => rfl
            | i + 5 =>
              rw [if_neg (by omega)]
              rfl
          have hd : ∀ i, ((List.range k).map fun i => Ce.num r i).getD i 0 = if i < k then Ce.num r i else 0 := fun i => by
            rw [List.getD_eq_getElem?_getD]
            by_cases hi : i < k
            · rw [if_pos hi, List.getElem?_map, List.getElem?_range hi]
              rfl
            · rw [if_neg hi, List.getElem?_eq_none (by simpa using hi)]
              rfl
          have hb := cnt_bd (x : Int)
          have hR : rightB (cmOf (x : Int) ((List.range k).map fun i => Ce.num r i) []) = true := by
            rw [right_iff]
            refine ⟨hc, by simp [cmOf], .inr rfl, fun i hi hci => ?_⟩
            rw [hg, if_pos hi, hd, if_neg]
            simp only [cmOf] at hci
            omega
          refine ⟨hR, ?_, ⟨fun i => ?_, fun y hy => by simp [cmOf] at hy⟩⟩
          · rw [raw_cons hR]
            have e1 : (cmOf (x : Int) ((List.range k).map fun i => Ce.num r i) []).kind = (x : Int) := rfl
            rw [e1, if_neg (by omega), hk, List.append_nil, Int.toNat_natCast]
            congr 1
            rw [nums_back hr (by omega) (fun i hi => by rw [hg, if_pos (by omega), hd, if_pos hi]), List.take_of_length_le (by omega)]
          · rw [hg]
            have h00 : I64 0 := by unfold I64; omega
            split <;> rw [hd] <;> split
            · exact (num_is hr (by omega)).2
            · exact h00
            · exact (num_is hr (by omega)).2
            · exact h00
        · rw [if_neg hl] at h
          cases h
      · have e : dec (x :: r) = (cm0, 2) := by
          show (if cnt x < 0 then (cm0, (2 : Int)) else _) = _
          rw [if_pos (by omega)]
        rw [e] at h
        cases h
theorem dec_err (l : List Nat) : (dec l).2 = 0 ∨ dec l = (cm0, 2) := by
  cases l with
  | nil => exact .inr rfl
  | cons x r =>
    by_cases h0 : x = 0
    · subst h0
      rw [dec_run]
      split
      · exact .inl rfl
      · exact .inr rfl
    · by_cases hc : 0 ≤ cnt x
      · rw [dec_nums h0 hc]
        split
        · exact .inl rfl
        · exact .inr rfl
      · refine .inr ?_
        show (if cnt x < 0 then (cm0, (2 : Int)) else _) = _
        rw [if_pos (by omega)]
theorem raw_len (c : Cm) : (raw c).length = 1 + (8 * (cnt c.kind).toNat + if c.kind = 0 then 4 + c.bytes.length else 0) := by
  unfold raw
  rw [List.length_append, be_length, List.length_append, nums_len]
  split
  · rw [List.length_append, be_length]
  · rfl
/-- With fewer bytes it is none's. -/
theorem dec_cut {c : Cm} (h : rightB c = true) {m : Nat} (hm : m < (raw c).length) : dec ((raw c).take m) = (cm0, 2) := by
  refine (dec_err _).resolve_left (fun he => ?_)
  obtain ⟨h1, h2, h3, h4⟩ := right_iff.1 h
  have hk := cnt_yes h1
  rw [raw_cons h] at he hm
  cases m with
  | zero => cases he
  | succ m =>
    rw [List.take_succ_cons] at he
    simp only [List.length_cons] at hm
    by_cases h0 : c.kind = 0
    · rw [if_pos h0, h0] at he hm
      have e : numsL c (cnt 0).toNat = [] := rfl
      rw [e, List.nil_append] at he hm
      change (dec (0 :: _)).2 = 0 at he
      rw [dec_run] at he
      rw [List.length_append, be_length] at hm
      split at he
      · rename_i hc
        obtain ⟨g1, g2, g3⟩ := hc
        rw [List.length_take, List.length_append, be_length] at g1 g2
        rw [List.take_take, show min 4 m = 4 by omega, List.take_left' (be_length 4 _), val_be (by omega)] at g2
        omega
      · cases he
    · rw [if_neg h0, List.append_nil] at he hm
      have e : ((c.kind.toNat : Nat) : Int) = c.kind := by omega
      rw [dec_nums (by omega) (by rw [e]; exact h1), e] at he
      rw [nums_len] at hm
      rw [if_neg (by rw [List.length_take, nums_len]; omega)] at he
      cases he
/-- With more bytes it is none's. -/
theorem dec_more {c : Cm} (h : rightB c = true) {b : List Nat} (hb : b ≠ []) : dec (raw c ++ b) = (cm0, 2) := by
  refine (dec_err _).resolve_left (fun he => ?_)
  have hbl : 0 < b.length := List.length_pos_iff.2 hb
  obtain ⟨h1, h2, h3, h4⟩ := right_iff.1 h
  have hk := cnt_yes h1
  rw [raw_cons h, List.cons_append] at he
  by_cases h0 : c.kind = 0
  · rw [if_pos h0, h0] at he
    have e : numsL c (cnt 0).toNat = [] := rfl
    rw [e, List.nil_append] at he
    change (dec (0 :: _)).2 = 0 at he
    rw [dec_run] at he
    split at he
    · rename_i hc
      obtain ⟨g1, g2, g3⟩ := hc
      rw [List.append_assoc, List.take_left' (be_length 4 _), val_be (by omega)] at g2
      simp only [List.length_append, be_length] at g2
      omega
    · cases he
  · rw [if_neg h0, List.append_nil] at he
    have e : ((c.kind.toNat : Nat) : Int) = c.kind := by omega
    rw [dec_nums (by omega) (by rw [e]; exact h1), e] at he
    rw [if_neg (by rw [List.length_append, nums_len]; omega)] at he
    cases he
theorem raw_lt {c : Cm} (h : rightB c = true) (hw : ∀ x ∈ c.bytes, x < 256) : ∀ x ∈ raw c, x < 256 := fun x hx => by
  rw [raw_cons h] at hx
  have hk := cnt_yes (right_iff.1 h).1
  rcases List.mem_cons.1 hx with rfl | hx
  · omega
  · rcases List.mem_append.1 hx with hx | hx
    · exact nums_lt c _ x hx
    · split at hx
      · rcases List.mem_append.1 hx with hx | hx
        · exact be_lt 4 _ x hx
        · exact hw x hx
      · simp at hx
theorem raw_le {c : Cm} (h : rightB c = true) : 1 ≤ (raw c).length ∧ (raw c).length ≤ 109 := by
  rw [raw_len c]
  have h1 := (right_iff.1 h).2.1
  have h2 := cnt_bd c.kind
  split <;> omega
end Go.Proofs.YtbahilakfgbgpaaDoor.Cm
