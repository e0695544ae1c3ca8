/- The sum of bytes of package check in plain whole numbers: one more bit is linear and loses nothing; what a turned bit does to a sum; what seals bytes; what a burst does. No condition but those written. -/
import Derived.Test.YtbahilakfgbgpaaDoorBytes
namespace Go.Proofs.YtbahilakfgbgpaaDoor
open Go.RowKit

namespace Ck
/-- A sum behind one more bit. -/
def stp (s : Nat) : Nat := if 32768 ≤ s then (2 * s % 65536) ^^^ 4129 else 2 * s % 65536
/-- A sum behind n more bits. -/
@[irreducible] def stps : Nat → Nat → Nat
  | 0, s => s
  | n + 1, s => stps n (stp s)
theorem stps_nil (s : Nat) : stps 0 s = s := by rw [stps]
theorem stps_succ (n s : Nat) : stps (n + 1) s = stps n (stp s) := by rw [stps]
/-- A sum behind one more byte. -/
@[irreducible] def feed (s x : Nat) : Nat := stps 8 (s ^^^ 256 * x)
theorem feed_eq (s x : Nat) : feed s x = stps 8 (s ^^^ 256 * x) := by rw [feed]
def crc (s : Nat) (l : List Nat) : Nat := l.foldl feed s
theorem crc_nil (s : Nat) : crc s [] = s := rfl
theorem crc_cons (s x : Nat) (r : List Nat) : crc s (x :: r) = crc (feed s x) r := rfl
theorem xor_lt {a b : Nat} (ha : a < 65536) (hb : b < 65536) : a ^^^ b < 65536 := Nat.xor_lt_two_pow (n := 16) ha hb
theorem stp_lt (s : Nat) : stp s < 65536 := by
  unfold stp
  split
  · exact xor_lt (Nat.mod_lt _ (by decide)) (by decide)
  · exact Nat.mod_lt _ (by decide)
theorem stps_lt (n : Nat) {s : Nat} (h : s < 65536) : stps n s < 65536 := by
  induction n generalizing s with
  | zero => rw [stps_nil]; exact h
  | succ n ih => rw [stps_succ]; exact ih (stp_lt s)
theorem top_iff {s : Nat} (h : s < 65536) : s.testBit 15 = decide (32768 ≤ s) := by
  rw [Nat.testBit_eq_decide_div_mod_eq]
  congr 1
  rw [eq_iff_iff]
  omega
theorem stp_bit {s : Nat} (h : s < 65536) : stp s = (2 * s % 65536) ^^^ (if s.testBit 15 then 4129 else 0) := by
  rw [top_iff h]
  unfold stp
  by_cases hh : 32768 ≤ s
  · rw [if_pos hh, if_pos (by simpa using hh)]
  · rw [if_neg hh, if_neg (by simpa using hh), Nat.xor_zero]
theorem double_xor (a b : Nat) : 2 * (a ^^^ b) % 65536 = (2 * a % 65536) ^^^ (2 * b % 65536) := by
  have h : ∀ x, 2 * x % 65536 = (x <<< 1) % 2 ^ 16 := fun x => by rw [Nat.shiftLeft_eq, Nat.mul_comm]
  rw [h, h, h, Nat.shiftLeft_xor_distrib, Nat.xor_mod_two_pow]
theorem xor_four (a b c d : Nat) : (a ^^^ b) ^^^ (c ^^^ d) = (a ^^^ c) ^^^ (b ^^^ d) := by
  rw [Nat.xor_assoc, ← Nat.xor_assoc b c d, Nat.xor_comm b c, Nat.xor_assoc c b d, ← Nat.xor_assoc]
theorem stp_xor {a b : Nat} (ha : a < 65536) (hb : b < 65536) : stp (a ^^^ b) = stp a ^^^ stp b := by
  rw [stp_bit (xor_lt ha hb), stp_bit ha, stp_bit hb, xor_four, double_xor]
  congr 1
  rw [Nat.testBit_xor]
  cases a.testBit 15 <;> cases b.testBit 15 <;> decide
theorem stps_xor (n : Nat) {a b : Nat} (ha : a < 65536) (hb : b < 65536) : stps n (a ^^^ b) = stps n a ^^^ stps n b := by
  induction n generalizing a b with
  | zero => rw [stps_nil, stps_nil, stps_nil]
  | succ n ih =>
    rw [stps_succ, stps_succ, stps_succ, stp_xor ha hb, ih (stp_lt a) (stp_lt b)]
theorem stp_none {s : Nat} (h : s < 65536) (h0 : stp s = 0) : s = 0 := by
  unfold stp at h0
  split at h0
  · have h1 : 2 * s % 65536 = 4129 := by
      have h2 : 2 * s % 65536 ^^^ 4129 ^^^ 4129 = 4129 := by rw [h0, Nat.zero_xor]
      rwa [Nat.xor_assoc, Nat.xor_self, Nat.xor_zero] at h2
    omega
  · omega
theorem stps_none (n : Nat) {s : Nat} (h : s < 65536) (h0 : stps n s = 0) : s = 0 := by
  induction n generalizing s with
  | zero => rwa [stps_nil] at h0
  | succ n ih => exact stp_none h (ih (stp_lt s) (by rwa [stps_succ] at h0))
theorem stps_zero (n : Nat) : stps n 0 = 0 := by
  induction n with
  | zero => rw [stps_nil]
  | succ n ih => rw [stps_succ]; exact ih
theorem stps_add (m n s : Nat) : stps (m + n) s = stps n (stps m s) := by
  induction m generalizing s with
  | zero => rw [Nat.zero_add, stps_nil]
  | succ m ih => rw [Nat.succ_add, stps_succ, stps_succ]; exact ih (stp s)
theorem mul_xor (a b : Nat) : 256 * (a ^^^ b) = 256 * a ^^^ 256 * b := by
  have h : ∀ x, 256 * x = x <<< 8 := fun x => by rw [Nat.shiftLeft_eq, Nat.mul_comm]
  rw [h, h, h, Nat.shiftLeft_xor_distrib]
theorem feed_lt {s x : Nat} (hs : s < 65536) (hx : x < 256) : feed s x < 65536 := by rw [feed_eq]; exact stps_lt 8 (xor_lt hs (by omega))
theorem feed_xor {s t x y : Nat} (hs : s < 65536) (ht : t < 65536) (hx : x < 256) (hy : y < 256) : feed (s ^^^ t) (x ^^^ y) = feed s x ^^^ feed t y := by
  rw [feed_eq, feed_eq, feed_eq, mul_xor, xor_four, stps_xor 8 (xor_lt hs (by omega)) (xor_lt ht (by omega))]
theorem feed_state {s t x : Nat} (hs : s < 65536) (ht : t < 65536) (hx : x < 256) : feed (s ^^^ t) x = feed s x ^^^ stps 8 t := by
  have h := feed_xor hs ht hx (show 0 < 256 by decide)
  rw [Nat.xor_zero] at h
  rw [h]
  congr 1
  rw [feed_eq, Nat.mul_zero, Nat.xor_zero]
theorem feed_byte {s x d : Nat} (hs : s < 65536) (hx : x < 256) (hd : d < 256) : feed s (x ^^^ d) = feed s x ^^^ feed 0 d := by
  have h := feed_xor hs (show 0 < 65536 by decide) hx hd
  rwa [Nat.xor_zero] at h
theorem crc_lt {s : Nat} {l : List Nat} (hs : s < 65536) (hl : ∀ x ∈ l, x < 256) : crc s l < 65536 := by
  induction l generalizing s with
  | nil => exact hs
  | cons x r ih => rw [crc_cons]; exact ih (feed_lt hs (hl x (by simp))) (fun y hy => hl y (by simp [hy]))
theorem crc_state {s t : Nat} {l : List Nat} (hs : s < 65536) (ht : t < 65536) (hl : ∀ x ∈ l, x < 256) : crc (s ^^^ t) l = crc s l ^^^ stps (8 * l.length) t := by
  induction l generalizing s t with
  | nil => rw [crc_nil, crc_nil]; simp [stps_nil]
  | cons x r ih =>
    have hx := hl x (by simp)
    rw [crc_cons, crc_cons, List.length_cons, feed_state hs ht hx, ih (feed_lt hs hx) (stps_lt 8 ht) (fun y hy => hl y (by simp [hy])), ← stps_add]
    congr 2
    omega
/-- What a byte that is turned does to the sum. -/
theorem crc_turn {s d : Nat} {l : List Nat} {i : Nat} (hs : s < 65536) (hl : ∀ x ∈ l, x < 256) (hd : d < 256) (hi : i < l.length) :
    crc s (l.set i (l.getD i 0 ^^^ d)) = crc s l ^^^ stps (8 * (l.length - 1 - i)) (feed 0 d) := by
  induction l generalizing s i with
  | nil => simp at hi
  | cons x r ih =>
    have hx := hl x (by simp)
    have hr : ∀ y ∈ r, y < 256 := fun y hy => hl y (by simp [hy])
    have h0 : feed 0 d < 65536 := feed_lt (by decide) hd
    cases i with
    | zero =>
      rw [List.set_cons_zero, crc_cons, crc_cons, List.getD_cons_zero, feed_byte hs hx hd, crc_state (feed_lt hs hx) h0 hr]
      simp
    | succ i =>
      rw [List.set_cons_succ, crc_cons, crc_cons, List.getD_cons_succ]
      have hi' : i < r.length := by simpa using hi
      rw [ih (feed_lt hs hx) hr hi']
      congr 2
      simp only [List.length_cons]
      omega
theorem bit_up (j : Nat) (hj : j < 16) : stps j (32768 / 2 ^ j) = 32768 := by
  have h : ∀ j : Fin 16, stps j.1 (32768 / 2 ^ j.1) = 32768 := by decide +kernel
  exact h ⟨j, hj⟩
theorem low_up (x : Nat) (hx : x < 256) : stps 8 x = 256 * x := by
  have h : ∀ x : Fin 256, stps 8 x.1 = 256 * x.1 := by decide +kernel
  exact h ⟨x, hx⟩
theorem feed_bit (r : Nat) (hr : r < 8) : feed 0 (128 / 2 ^ r) = stps (8 - r) 32768 := by
  have h : ∀ r : Fin 8, feed 0 (128 / 2 ^ r.1) = stps (8 - r.1) 32768 := by decide +kernel
  exact h ⟨r, hr⟩
/-- A bit that is turned, the k-th of the bytes, seen from a place ahead of it. -/
theorem crc_bit {s : Nat} {l : List Nat} {place j : Nat} (hs : s < 65536) (hl : ∀ x ∈ l, x < 256) (hj : j < 16) (hk : place + j < 8 * l.length) :
    crc s (l.set ((place + j) / 8) (l.getD ((place + j) / 8) 0 ^^^ 128 / 2 ^ ((place + j) % 8))) = crc s l ^^^ stps (8 * l.length - place) (32768 / 2 ^ j) := by
  have hr : (place + j) % 8 < 8 := Nat.mod_lt _ (by decide)
  rw [crc_turn hs hl (Nat.lt_of_le_of_lt (Nat.div_le_self _ _) (by decide)) (by omega), feed_bit _ hr, ← stps_add]
  congr 1
  rw [show 8 * l.length - place = j + (8 * l.length - place - j) by omega, stps_add j, bit_up j hj]
  congr 1
  omega
theorem both_xor (h lo : Nat) (hlo : lo < 256) : (256 * h + lo) ^^^ 256 * h = lo := by
  have e : 256 * h + lo = 256 * h ||| lo := Nat.two_pow_add_eq_or_of_lt (i := 8) hlo h
  rw [e]
  apply Nat.eq_of_testBit_eq
  intro i
  rw [Nat.testBit_xor, Nat.testBit_or, show 256 * h = 2 ^ 8 * h from rfl, Nat.testBit_two_pow_mul]
  by_cases hi : 8 ≤ i
  · have : lo.testBit i = false := Nat.testBit_lt_two_pow (Nat.lt_of_lt_of_le hlo (by
      have := Nat.pow_le_pow_right (show 0 < 2 by decide) hi
      simpa using this))
    rw [this]
    cases (decide (i ≥ 8) && h.testBit (i - 8)) <;> rfl
  · have : decide (i ≥ 8) = false := by simpa using hi
    rw [this]
    simp
theorem crc_append (s : Nat) (l m : List Nat) : crc s (l ++ m) = crc (crc s l) m := List.foldl_append
theorem sealed_none (h lo : Nat) (hlo : lo < 256) : feed (feed (256 * h + lo) h) lo = 0 := by
  rw [feed_eq (256 * h + lo) h, both_xor h lo hlo, low_up lo hlo, feed_eq, Nat.xor_self, stps_zero]
/-- Bytes with two more behind: they end up at 0 just if these two are the sum. -/
theorem crc_good {l : List Nat} {h lo : Nat} (hl : ∀ x ∈ l, x < 256) (hh : h < 256) (hlo : lo < 256) : crc 65535 (l ++ [h, lo]) = 0 ↔ crc 65535 l = 256 * h + lo := by
  have hc : crc 65535 l < 65536 := crc_lt (by decide) hl
  rw [crc_append, crc_cons, crc_cons, crc_nil]
  generalize crc 65535 l = c at hc
  have hv : 256 * h + lo < 65536 := by omega
  have key : feed (feed c h) lo = stps 16 ((256 * h + lo) ^^^ c) := by
    have hw : (256 * h + lo) ^^^ c < 65536 := xor_lt hv hc
    have e : c = (256 * h + lo) ^^^ ((256 * h + lo) ^^^ c) := by rw [← Nat.xor_assoc, Nat.xor_self, Nat.zero_xor]
    have e2 : feed (feed ((256 * h + lo) ^^^ ((256 * h + lo) ^^^ c)) h) lo = stps 16 ((256 * h + lo) ^^^ c) := by
      rw [feed_state hv hw hh, feed_state (feed_lt hv hh) (stps_lt 8 hw) hlo, sealed_none h lo hlo, Nat.zero_xor, ← stps_add]
    rwa [← e] at e2
  constructor
  · intro h0
    rw [key] at h0
    have h1 := stps_none 16 (xor_lt hv hc) h0
    have h2 : (256 * h + lo) ^^^ c ^^^ c = c := by rw [h1, Nat.zero_xor]
    rw [Nat.xor_assoc, Nat.xor_self, Nat.xor_zero] at h2
    exact h2.symm
  · intro h0
    rw [h0, sealed_none h lo hlo]
/-- One bit more of the bits that are set in just one of two numbers. -/
theorem turn_step (a b i : Nat) : (a ^^^ b) % 2 ^ (i + 1) = (a ^^^ b) % 2 ^ i + if a / 2 ^ i % 2 = b / 2 ^ i % 2 then 0 else 2 ^ i := by
  rw [Nat.mod_pow_succ]
  congr 1
  have h : (a ^^^ b) / 2 ^ i % 2 = if a / 2 ^ i % 2 = b / 2 ^ i % 2 then 0 else 1 := by
    have h1 : ∀ x : Nat, x / 2 ^ i % 2 = (x.testBit i).toNat := fun x => (Nat.toNat_testBit x i).symm
    rw [h1, h1, h1, Nat.testBit_xor]
    cases a.testBit i <;> cases b.testBit i <;> decide
  rw [h]
  split <;> simp
theorem turn_all (a b : Nat) (ha : a < 65536) (hb : b < 65536) : (a ^^^ b) % 2 ^ 16 = a ^^^ b := Nat.mod_eq_of_lt (xor_lt ha hb)
/-- A bit of a byte is turned by taking it away, or adding it. -/
theorem bit_less (x j : Nat) (hx : x < 256) (hj : j < 8) (h : x / 2 ^ j % 2 = 1) : x ^^^ 2 ^ j = x - 2 ^ j ∧ 2 ^ j ≤ x := by
  have H : ∀ x : Fin 256, ∀ j : Fin 8, x.1 / 2 ^ j.1 % 2 = 1 → x.1 ^^^ 2 ^ j.1 = x.1 - 2 ^ j.1 ∧ 2 ^ j.1 ≤ x.1 := by decide +kernel
  exact H ⟨x, hx⟩ ⟨j, hj⟩ h
theorem bit_plus (x j : Nat) (hx : x < 256) (hj : j < 8) (h : ¬ x / 2 ^ j % 2 = 1) : x ^^^ 2 ^ j = x + 2 ^ j ∧ x + 2 ^ j < 256 := by
  have H : ∀ x : Fin 256, ∀ j : Fin 8, ¬ x.1 / 2 ^ j.1 % 2 = 1 → x.1 ^^^ 2 ^ j.1 = x.1 + 2 ^ j.1 ∧ x.1 + 2 ^ j.1 < 256 := by decide +kernel
  exact H ⟨x, hx⟩ ⟨j, hj⟩ h
theorem stp_big {n : Nat} (h : 32768 ≤ n) : stp n = (2 * n % 65536) ^^^ 4129 := by unfold stp; rw [if_pos h]
theorem stp_small {n : Nat} (h : ¬ 32768 ≤ n) : stp n = 2 * n % 65536 := by unfold stp; rw [if_neg h]
theorem stps_more (k s : Nat) : stps (k + 1) s = stp (stps k s) := by rw [stps_add k 1, stps_succ, stps_nil]
theorem crc_take (s : Nat) (l : List Nat) (k : Nat) (h : k < l.length) : crc s (l.take (k + 1)) = feed (crc s (l.take k)) (l.getD k 0) := by
  rw [List.take_succ_eq_append_getElem h, crc_append, crc_cons, crc_nil, List.getD_eq_getElem?_getD, List.getElem?_eq_getElem h]
  rfl
/-- Are bytes good? -/
@[irreducible] def goodB (l : List Nat) : Bool := decide (2 ≤ l.length ∧ crc 65535 (l.take (l.length - 2)) = 256 * l.getD (l.length - 2) 0 + l.getD (l.length - 1) 0)
theorem good_short {l : List Nat} (h : l.length < 2) : goodB l = false := by unfold goodB; rw [decide_eq_false_iff_not]; omega
theorem good_long {l : List Nat} {m : Nat} (h : l.length = m + 2) : goodB l = decide (crc 65535 (l.take m) = 256 * l.getD m 0 + l.getD (m + 1) 0) := by
  unfold goodB
  rw [h]
  simp
/-- Bytes, and their sum behind them. -/
@[irreducible] def tight (l : List Nat) : List Nat := l ++ [Ck.crc 65535 l / 256, Ck.crc 65535 l % 256]
theorem tight_eq (l : List Nat) : tight l = l ++ [Ck.crc 65535 l / 256, Ck.crc 65535 l % 256] := by unfold tight; rfl
theorem tight_length (l : List Nat) : (tight l).length = l.length + 2 := by rw [tight_eq]; simp
theorem tight_lt {l : List Nat} (hl : ∀ x ∈ l, x < 256) : ∀ x ∈ tight l, x < 256 := by
  have hc : Ck.crc 65535 l < 65536 := Ck.crc_lt (by decide) hl
  rw [tight_eq]
  intro x hx
  simp only [List.mem_append, List.mem_cons, List.not_mem_nil, or_false] at hx
  rcases hx with hx | rfl | rfl
  · exact hl x hx
  · omega
  · omega
theorem good_tight {l : List Nat} (hl : ∀ x ∈ l, x < 256) : Ck.goodB (tight l) = true := by
  have hc : Ck.crc 65535 l < 65536 := Ck.crc_lt (by decide) hl
  rw [Ck.good_long (tight_length l), decide_eq_true_iff, tight_eq]
  have e1 : (l ++ [Ck.crc 65535 l / 256, Ck.crc 65535 l % 256]).getD l.length 0 = Ck.crc 65535 l / 256 := by simp [List.getD_eq_getElem?_getD]
  have e2 : (l ++ [Ck.crc 65535 l / 256, Ck.crc 65535 l % 256]).getD (l.length + 1) 0 = Ck.crc 65535 l % 256 := by simp [List.getD_eq_getElem?_getD]
  rw [e1, e2, List.take_left' rfl]
  omega
theorem crc_tight {l : List Nat} (hl : ∀ x ∈ l, x < 256) : crc 65535 (tight l) = 0 := by
  have hc : crc 65535 l < 65536 := crc_lt (by decide) hl
  rw [tight_eq, crc_good hl (by omega) (by omega)]
  omega
theorem split_two {l : List Nat} {m : Nat} (h : l.length = m + 2) : l = l.take m ++ [l.getD m 0, l.getD (m + 1) 0] := by
  have h1 := (List.take_append_drop m l).symm
  have h2 : l.drop m = [l.getD m 0, l.getD (m + 1) 0] := by
    rw [List.drop_eq_getElem_cons (by omega), List.drop_eq_getElem_cons (by omega), List.drop_eq_nil_of_le (by omega)]
    simp only [List.getD_eq_getElem?_getD, List.getElem?_eq_getElem (show m < l.length by omega), List.getElem?_eq_getElem (show m + 1 < l.length by omega), Option.getD_some]
  rwa [h2] at h1
theorem good_none {l : List Nat} {m : Nat} (h : l.length = m + 2) (hl : ∀ x ∈ l, x < 256) : goodB l = decide (crc 65535 l = 0) := by
  have e := split_two h
  have h1 : ∀ x ∈ l.take m, x < 256 := fun x hx => hl x (List.mem_of_mem_take hx)
  have h2 := getD_lt hl m
  have h3 := getD_lt hl (m + 1)
  have key := crc_good h1 h2 h3
  rw [← e] at key
  rw [good_long h, Bool.eq_iff_iff, decide_eq_true_iff, decide_eq_true_iff]
  exact key.symm
/-- What is known of sealed bytes of which the first k places of a burst are done: Q tells the bits that were turned. -/
def Off (n place k Q : Nat) (t : List Nat) : Prop :=
  t.length = n + 2 ∧ (∀ x ∈ t, x < 256) ∧ Q < 2 ^ k ∧ crc 65535 t = stps (8 * (n + 2) - place) (Q * 2 ^ (16 - k))
theorem off_start (n place : Nat) {l : List Nat} (hn : l.length = n) (hl : ∀ x ∈ l, x < 256) : Off n place 0 0 (tight l) :=
  ⟨by rw [tight_length, hn], tight_lt hl, by decide, by rw [crc_tight hl, Nat.zero_mul, stps_zero]⟩
theorem off_skip {n place k Q : Nat} {t : List Nat} (h : Off n place k Q t) (hk : k < 16) : Off n place (k + 1) (2 * Q) t := by
  obtain ⟨h1, h2, h3, h4⟩ := h
  refine ⟨h1, h2, by rw [Nat.pow_succ]; omega, ?_⟩
  rw [h4]
  congr 1
  rw [show 16 - k = 16 - (k + 1) + 1 by omega, Nat.pow_succ, Nat.mul_comm 2 Q, Nat.mul_assoc, Nat.mul_comm 2]
theorem one_more (Q e : Nat) : (Q * 2 ^ (e + 1)) ^^^ 2 ^ e = (2 * Q + 1) * 2 ^ e := by
  have h1 : Q * 2 ^ (e + 1) = (2 * Q) * 2 ^ e := by rw [Nat.pow_succ, Nat.mul_comm 2 Q, Nat.mul_assoc, Nat.mul_comm 2]
  have h2 : (2 * Q) ^^^ 1 = 2 * Q + 1 := by
    apply Nat.eq_of_testBit_eq
    intro i
    cases i with
    | zero => simp
    | succ i =>
      rw [Nat.testBit_xor, Nat.testBit_succ, Nat.testBit_succ, Nat.testBit_succ]
      have a1 : 2 * Q / 2 = Q := by omega
      have a2 : (2 * Q + 1) / 2 = Q := by omega
      have a3 : 1 / 2 = 0 := rfl
      rw [a1, a2, a3]
      simp
  rw [h1, ← h2, ← Nat.shiftLeft_eq, ← Nat.shiftLeft_eq, Nat.shiftLeft_xor_distrib, Nat.shiftLeft_eq 1, Nat.one_mul]
theorem off_turn {n place k Q : Nat} {t : List Nat} (h : Off n place k Q t) (hk : k < 16) (hp : place + 16 ≤ 8 * (n + 2)) :
    Off n place (k + 1) (2 * Q + 1) (t.set ((place + k) / 8) (t.getD ((place + k) / 8) 0 ^^^ 2 ^ (7 - (place + k) % 8))) := by
  obtain ⟨h1, h2, h3, h4⟩ := h
  have hr : (place + k) % 8 < 8 := Nat.mod_lt _ (by decide)
  have e7 : 2 ^ (7 - (place + k) % 8) = 128 / 2 ^ ((place + k) % 8) := by
    have H : ∀ r : Fin 8, 2 ^ (7 - r.1) = 128 / 2 ^ r.1 := by decide +kernel
    exact H ⟨_, hr⟩
  have hb : 2 ^ (7 - (place + k) % 8) < 256 := by rw [e7]; exact Nat.lt_of_le_of_lt (Nat.div_le_self _ _) (by decide)
  refine ⟨by rw [List.length_set, h1], fun x hx => ?_, by rw [Nat.pow_succ]; omega, ?_⟩
  · rcases List.mem_or_eq_of_mem_set hx with hx | rfl
    · exact h2 x hx
    · exact Nat.xor_lt_two_pow (n := 8) (getD_lt h2 _) hb
  · have hq : 32768 / 2 ^ k = 2 ^ (15 - k) := by
      have H : ∀ k : Fin 16, 32768 / 2 ^ k.1 = 2 ^ (15 - k.1) := by decide +kernel
      exact H ⟨k, hk⟩
    have hQ : Q * 2 ^ (16 - k) < 65536 := by
      have e : 2 ^ k * 2 ^ (16 - k) = 65536 := by rw [← Nat.pow_add, show k + (16 - k) = 16 by omega]
      rw [← e]
      exact Nat.mul_lt_mul_of_pos_right h3 (Nat.two_pow_pos _)
    have hlt : 2 ^ (15 - k) < 65536 := by
      have H : ∀ k : Fin 16, 2 ^ (15 - k.1) < 65536 := by decide +kernel
      exact H ⟨k, hk⟩
    rw [e7, crc_bit (by decide) h2 hk (by omega), h4, h1, hq, ← stps_xor _ hQ hlt]
    congr 1
    rw [show 16 - k = (15 - k) + 1 by omega, one_more, show 16 - (k + 1) = 15 - k by omega]
theorem off_end {n place Q : Nat} {t : List Nat} (h : Off n place 16 Q t) : goodB t = decide (Q = 0) := by
  obtain ⟨h1, h2, h3, h4⟩ := h
  rw [good_none h1 h2, Bool.eq_iff_iff, decide_eq_true_iff, decide_eq_true_iff, h4]
  constructor
  · intro h0
    have := stps_none _ (by omega) h0
    omega
  · rintro rfl
    rw [Nat.zero_mul, stps_zero]
end Ck
end Go.Proofs.YtbahilakfgbgpaaDoor
