/- The sum of bytes of package check in plain whole numbers: one more bit is linear and loses nothing; what a turned bit does to a sum; what seals bytes. No condition but those written. -/
namespace Go.Proofs.Ytpcpfcbcmenliaa
namespace Ck

/-- A sum behind one more bit. -/
def stp (s : Nat) : Nat := if 32768 ≤ s then (2 * s % 65536) ^^^ 4129 else 2 * s % 65536
/-- A sum behind n more bits. -/
@[irreducible] def stps : Nat → Nat → Nat
  | 0, s => s
  | n + 1, s => stps n (stp s)
theorem stps_nil (s : Nat) : stps 0 s = s := by rw [stps]
theorem stps_succ (n s : Nat) : stps (n + 1) s = stps n (stp s) := by rw [stps]
/-- A sum behind one more byte. -/
@[irreducible] def feed (s x : Nat) : Nat := stps 8 (s ^^^ 256 * x)
theorem feed_eq (s x : Nat) : feed s x = stps 8 (s ^^^ 256 * x) := by rw [feed]
def crc (s : Nat) (l : List Nat) : Nat := l.foldl feed s
theorem crc_nil (s : Nat) : crc s [] = s := rfl
theorem crc_cons (s x : Nat) (r : List Nat) : crc s (x :: r) = crc (feed s x) r := rfl

theorem xor_lt {a b : Nat} (ha : a < 65536) (hb : b < 65536) : a ^^^ b < 65536 := Nat.xor_lt_two_pow (n := 16) ha hb
theorem stp_lt (s : Nat) : stp s < 65536 := by
  unfold stp
  split
  · exact xor_lt (Nat.mod_lt _ (by decide)) (by decide)
  · exact Nat.mod_lt _ (by decide)
theorem stps_lt (n : Nat) {s : Nat} (h : s < 65536) : stps n s < 65536 := by
  induction n generalizing s with
  | zero => rw [stps_nil]; exact h
  | succ n ih => rw [stps_succ]; exact ih (stp_lt s)
theorem top_iff {s : Nat} (h : s < 65536) : s.testBit 15 = decide (32768 ≤ s) := by
  rw [Nat.testBit_eq_decide_div_mod_eq]
  congr 1
  rw [eq_iff_iff]
  omega
theorem stp_bit {s : Nat} (h : s < 65536) : stp s = (2 * s % 65536) ^^^ (if s.testBit 15 then 4129 else 0) := by
  rw [top_iff h]
  unfold stp
  by_cases hh : 32768 ≤ s
  · rw [if_pos hh, if_pos (by simpa using hh)]
  · rw [if_neg hh, if_neg (by simpa using hh), Nat.xor_zero]
theorem double_xor (a b : Nat) : 2 * (a ^^^ b) % 65536 = (2 * a % 65536) ^^^ (2 * b % 65536) := by
  have h : ∀ x, 2 * x % 65536 = (x <<< 1) % 2 ^ 16 := fun x => by rw [Nat.shiftLeft_eq, Nat.mul_comm]
  rw [h, h, h, Nat.shiftLeft_xor_distrib, Nat.xor_mod_two_pow]
theorem xor_four (a b c d : Nat) : (a ^^^ b) ^^^ (c ^^^ d) = (a ^^^ c) ^^^ (b ^^^ d) := by
  rw [Nat.xor_assoc, ← Nat.xor_assoc b c d, Nat.xor_comm b c, Nat.xor_assoc c b d, ← Nat.xor_assoc]
theorem stp_xor {a b : Nat} (ha : a < 65536) (hb : b < 65536) : stp (a ^^^ b) = stp a ^^^ stp b := by
  rw [stp_bit (xor_lt ha hb), stp_bit ha, stp_bit hb, xor_four, double_xor]
  congr 1
  rw [Nat.testBit_xor]
  cases a.testBit 15 <;> cases b.testBit 15 <;> decide
theorem stps_xor (n : Nat) {a b : Nat} (ha : a < 65536) (hb : b < 65536) : stps n (a ^^^ b) = stps n a ^^^ stps n b := by
  induction n generalizing a b with
  | zero => rw [stps_nil, stps_nil, stps_nil]
  | succ n ih =>
    rw [stps_succ, stps_succ, stps_succ, stp_xor ha hb, ih (stp_lt a) (stp_lt b)]
theorem stp_none {s : Nat} (h : s < 65536) (h0 : stp s = 0) : s = 0 := by
  unfold stp at h0
  split at h0
  · have h1 : 2 * s % 65536 = 4129 := by
      have h2 : 2 * s % 65536 ^^^ 4129 ^^^ 4129 = 4129 := by rw [h0, Nat.zero_xor]
      rwa [Nat.xor_assoc, Nat.xor_self, Nat.xor_zero] at h2
    omega
  · omega
theorem stps_none (n : Nat) {s : Nat} (h : s < 65536) (h0 : stps n s = 0) : s = 0 := by
  induction n generalizing s with
  | zero => rwa [stps_nil] at h0
  | succ n ih => exact stp_none h (ih (stp_lt s) (by rwa [stps_succ] at h0))
theorem stps_zero (n : Nat) : stps n 0 = 0 := by
  induction n with
  | zero => rw [stps_nil]
  | succ n ih => rw [stps_succ]; exact ih
theorem stps_add (m n s : Nat) : stps (m + n) s = stps n (stps m s) := by
  induction m generalizing s with
  | zero => rw [Nat.zero_add, stps_nil]
  | succ m ih => rw [Nat.succ_add, stps_succ, stps_succ]; exact ih (stp s)
theorem mul_xor (a b : Nat) : 256 * (a ^^^ b) = 256 * a ^^^ 256 * b := by
  have h : ∀ x, 256 * x = x <<< 8 := fun x => by rw [Nat.shiftLeft_eq, Nat.mul_comm]
  rw [h, h, h, Nat.shiftLeft_xor_distrib]
theorem feed_lt {s x : Nat} (hs : s < 65536) (hx : x < 256) : feed s x < 65536 := by rw [feed_eq]; exact stps_lt 8 (xor_lt hs (by omega))
theorem feed_xor {s t x y : Nat} (hs : s < 65536) (ht : t < 65536) (hx : x < 256) (hy : y < 256) : feed (s ^^^ t) (x ^^^ y) = feed s x ^^^ feed t y := by
  rw [feed_eq, feed_eq, feed_eq, mul_xor, xor_four, stps_xor 8 (xor_lt hs (by omega)) (xor_lt ht (by omega))]
theorem feed_state {s t x : Nat} (hs : s < 65536) (ht : t < 65536) (hx : x < 256) : feed (s ^^^ t) x = feed s x ^^^ stps 8 t := by
  have h := feed_xor hs ht hx (show 0 < 256 by decide)
  rw [Nat.xor_zero] at h
  rw [h]
  congr 1
  rw [feed_eq, Nat.mul_zero, Nat.xor_zero]
theorem feed_byte {s x d : Nat} (hs : s < 65536) (hx : x < 256) (hd : d < 256) : feed s (x ^^^ d) = feed s x ^^^ feed 0 d := by
  have h := feed_xor hs (show 0 < 65536 by decide) hx hd
  rwa [Nat.xor_zero] at h
theorem crc_lt {s : Nat} {l : List Nat} (hs : s < 65536) (hl : ∀ x ∈ l, x < 256) : crc s l < 65536 := by
  induction l generalizing s with
  | nil => exact hs
  | cons x r ih => rw [crc_cons]; exact ih (feed_lt hs (hl x (by simp))) (fun y hy => hl y (by simp [hy]))
theorem crc_state {s t : Nat} {l : List Nat} (hs : s < 65536) (ht : t < 65536) (hl : ∀ x ∈ l, x < 256) : crc (s ^^^ t) l = crc s l ^^^ stps (8 * l.length) t := by
  induction l generalizing s t with
  | nil => rw [crc_nil, crc_nil]; simp [stps_nil]
  | cons x r ih =>
    have hx := hl x (by simp)
    rw [crc_cons, crc_cons, List.length_cons, feed_state hs ht hx, ih (feed_lt hs hx) (stps_lt 8 ht) (fun y hy => hl y (by simp [hy])), ← stps_add]
    congr 2
    omega
/-- What a byte that is turned does to the sum. -/
theorem crc_turn {s d : Nat} {l : List Nat} {i : Nat} (hs : s < 65536) (hl : ∀ x ∈ l, x < 256) (hd : d < 256) (hi : i < l.length) :
    crc s (l.set i (l.getD i 0 ^^^ d)) = crc s l ^^^ stps (8 * (l.length - 1 - i)) (feed 0 d) := by
  induction l generalizing s i with
  | nil => simp at hi
  | cons x r ih =>
    have hx := hl x (by simp)
    have hr : ∀ y ∈ r, y < 256 := fun y hy => hl y (by simp [hy])
    have h0 : feed 0 d < 65536 := feed_lt (by decide) hd
    cases i with
    | zero =>
      rw [List.set_cons_zero, crc_cons, crc_cons, List.getD_cons_zero, feed_byte hs hx hd, crc_state (feed_lt hs hx) h0 hr]
      simp
    | succ i =>
      rw [List.set_cons_succ, crc_cons, crc_cons, List.getD_cons_succ]
      have hi' : i < r.length := by simpa using hi
      rw [ih (feed_lt hs hx) hr hi']
      congr 2
      simp only [List.length_cons]
      omega

theorem bit_up (j : Nat) (hj : j < 16) : stps j (32768 / 2 ^ j) = 32768 := by
  have h : ∀ j : Fin 16, stps j.1 (32768 / 2 ^ j.1) = 32768 := by decide +kernel
  exact h ⟨j, hj⟩
theorem low_up (x : Nat) (hx : x < 256) : stps 8 x = 256 * x := by
  have h : ∀ x : Fin 256, stps 8 x.1 = 256 * x.1 := by decide +kernel
  exact h ⟨x, hx⟩
theorem feed_bit (r : Nat) (hr : r < 8) : feed 0 (128 / 2 ^ r) = stps (8 - r) 32768 := by
  have h : ∀ r : Fin 8, feed 0 (128 / 2 ^ r.1) = stps (8 - r.1) 32768 := by decide +kernel
  exact h ⟨r, hr⟩
/-- A bit that is turned, the k-th of the bytes, seen from a place ahead of it. -/
theorem crc_bit {s : Nat} {l : List Nat} {place j : Nat} (hs : s < 65536) (hl : ∀ x ∈ l, x < 256) (hj : j < 16) (hk : place + j < 8 * l.length) :
    crc s (l.set ((place + j) / 8) (l.getD ((place + j) / 8) 0 ^^^ 128 / 2 ^ ((place + j) % 8))) = crc s l ^^^ stps (8 * l.length - place) (32768 / 2 ^ j) := by
  have hr : (place + j) % 8 < 8 := Nat.mod_lt _ (by decide)
  rw [crc_turn hs hl (Nat.lt_of_le_of_lt (Nat.div_le_self _ _) (by decide)) (by omega), feed_bit _ hr, ← stps_add]
  congr 1
  rw [show 8 * l.length - place = j + (8 * l.length - place - j) by omega, stps_add j, bit_up j hj]
  congr 1
  omega

theorem both_xor (h lo : Nat) (hlo : lo < 256) : (256 * h + lo) ^^^ 256 * h = lo := by
  have e : 256 * h + lo = 256 * h ||| lo := Nat.two_pow_add_eq_or_of_lt (i := 8) hlo h
  rw [e]
  apply Nat.eq_of_testBit_eq
  intro i
  rw [Nat.testBit_xor, Nat.testBit_or, show 256 * h = 2 ^ 8 * h from rfl, Nat.testBit_two_pow_mul]
  by_cases hi : 8 ≤ i
  · have : lo.testBit i = false := Nat.testBit_lt_two_pow (Nat.lt_of_lt_of_le hlo (by
      have := Nat.pow_le_pow_right (show 0 < 2 by decide) hi
      simpa using this))
    rw [this]
    cases (decide (i ≥ 8) && h.testBit (i - 8)) <;> rfl
  · have : decide (i ≥ 8) = false := by simpa using hi
    rw [this]
    simp
theorem crc_append (s : Nat) (l m : List Nat) : crc s (l ++ m) = crc (crc s l) m := List.foldl_append
theorem sealed_none (h lo : Nat) (hlo : lo < 256) : feed (feed (256 * h + lo) h) lo = 0 := by
  rw [feed_eq (256 * h + lo) h, both_xor h lo hlo, low_up lo hlo, feed_eq, Nat.xor_self, stps_zero]
/-- Bytes with two more behind: they end up at 0 just if these two are the sum. -/
theorem crc_good {l : List Nat} {h lo : Nat} (hl : ∀ x ∈ l, x < 256) (hh : h < 256) (hlo : lo < 256) : crc 65535 (l ++ [h, lo]) = 0 ↔ crc 65535 l = 256 * h + lo := by
  have hc : crc 65535 l < 65536 := crc_lt (by decide) hl
  rw [crc_append, crc_cons, crc_cons, crc_nil]
  generalize crc 65535 l = c at hc
  have hv : 256 * h + lo < 65536 := by omega
  have key : feed (feed c h) lo = stps 16 ((256 * h + lo) ^^^ c) := by
    have hw : (256 * h + lo) ^^^ c < 65536 := xor_lt hv hc
    have e : c = (256 * h + lo) ^^^ ((256 * h + lo) ^^^ c) := by rw [← Nat.xor_assoc, Nat.xor_self, Nat.zero_xor]
    have e2 : feed (feed ((256 * h + lo) ^^^ ((256 * h + lo) ^^^ c)) h) lo = stps 16 ((256 * h + lo) ^^^ c) := by
      rw [feed_state hv hw hh, feed_state (feed_lt hv hh) (stps_lt 8 hw) hlo, sealed_none h lo hlo, Nat.zero_xor, ← stps_add]
    rwa [← e] at e2
  constructor
  · intro h0
    rw [key] at h0
    have h1 := stps_none 16 (xor_lt hv hc) h0
    have h2 : (256 * h + lo) ^^^ c ^^^ c = c := by rw [h1, Nat.zero_xor]
    rw [Nat.xor_assoc, Nat.xor_self, Nat.xor_zero] at h2
    exact h2.symm
  · intro h0
    rw [h0, sealed_none h lo hlo]

/-- One bit more of the bits that are set in just one of two numbers. -/
theorem turn_step (a b i : Nat) : (a ^^^ b) % 2 ^ (i + 1) = (a ^^^ b) % 2 ^ i + if a / 2 ^ i % 2 = b / 2 ^ i % 2 then 0 else 2 ^ i := by
  rw [Nat.mod_pow_succ]
  congr 1
  have h : (a ^^^ b) / 2 ^ i % 2 = if a / 2 ^ i % 2 = b / 2 ^ i % 2 then 0 else 1 := by
    have h1 : ∀ x : Nat, x / 2 ^ i % 2 = (x.testBit i).toNat := fun x => (Nat.toNat_testBit x i).symm
    rw [h1, h1, h1, Nat.testBit_xor]
    cases a.testBit i <;> cases b.testBit i <;> decide
  rw [h]
  split <;> simp
theorem turn_all (a b : Nat) (ha : a < 65536) (hb : b < 65536) : (a ^^^ b) % 2 ^ 16 = a ^^^ b := Nat.mod_eq_of_lt (xor_lt ha hb)

/-- A bit of a byte is turned by taking it away, or adding it. -/
theorem bit_less (x j : Nat) (hx : x < 256) (hj : j < 8) (h : x / 2 ^ j % 2 = 1) : x ^^^ 2 ^ j = x - 2 ^ j ∧ 2 ^ j ≤ x := by
  have H : ∀ x : Fin 256, ∀ j : Fin 8, x.1 / 2 ^ j.1 % 2 = 1 → x.1 ^^^ 2 ^ j.1 = x.1 - 2 ^ j.1 ∧ 2 ^ j.1 ≤ x.1 := by decide +kernel
  exact H ⟨x, hx⟩ ⟨j, hj⟩ h
theorem bit_plus (x j : Nat) (hx : x < 256) (hj : j < 8) (h : ¬ x / 2 ^ j % 2 = 1) : x ^^^ 2 ^ j = x + 2 ^ j ∧ x + 2 ^ j < 256 := by
  have H : ∀ x : Fin 256, ∀ j : Fin 8, ¬ x.1 / 2 ^ j.1 % 2 = 1 → x.1 ^^^ 2 ^ j.1 = x.1 + 2 ^ j.1 ∧ x.1 + 2 ^ j.1 < 256 := by decide +kernel
  exact H ⟨x, hx⟩ ⟨j, hj⟩ h
end Ck
end Go.Proofs.Ytpcpfcbcmenliaa
