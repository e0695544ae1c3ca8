/- Numbers as bytes, in plain words: what is written, what is read; no condition but those written. -/
namespace Go.Proofs.YtbahilakfgbgpaaDoor.Oc

/-- The lowest k bytes of a number, the highest byte first. -/
def be : Nat → Nat → List Nat
  | 0, _ => []
  | k + 1, n => (n / 256 ^ k % 256) :: be k n
theorem be_zero (n : Nat) : be 0 n = [] := rfl
theorem be_succ (k n : Nat) : be (k + 1) n = (n / 256 ^ k % 256) :: be k n := rfl
theorem be_length (k n : Nat) : (be k n).length = k := by
  induction k with
  | zero => rfl
  | succ k ih => simp [be, ih]
theorem be_lt (k n : Nat) : ∀ x ∈ be k n, x < 256 := by
  induction k with
  | zero => simp [be]
  | succ k ih =>
    intro x hx
    rcases List.mem_cons.1 (by simpa [be] using hx) with rfl | h
    · exact Nat.mod_lt _ (by decide)
    · exact ih x h
/-- The number of bytes, behind a number that is there. -/
def valo : Nat → List Nat → Nat
  | u, [] => u
  | u, x :: l => valo (256 * u + x) l
def val (l : List Nat) : Nat := valo 0 l
theorem valo_nil (u : Nat) : valo u [] = u := rfl
theorem valo_cons (u x : Nat) (l : List Nat) : valo u (x :: l) = valo (256 * u + x) l := rfl
theorem valo_append (u : Nat) (l m : List Nat) : valo u (l ++ m) = valo (valo u l) m := by
  induction l generalizing u with
  | nil => rfl
  | cons x l ih => simp [valo, ih]
theorem val_snoc (l : List Nat) (x : Nat) : val (l ++ [x]) = 256 * val l + x := by
  unfold val
  rw [valo_append]
  rfl
theorem valo_be (k u n : Nat) : valo u (be k n) = 256 ^ k * u + n % 256 ^ k := by
  induction k generalizing u with
  | zero => simp [be, valo, Nat.mod_one]
  | succ k ih =>
    rw [be_succ, valo_cons, ih]
    have h1 : n % 256 ^ (k + 1) = n % 256 ^ k + 256 ^ k * (n / 256 ^ k % 256) := by
      rw [Nat.pow_succ, Nat.mod_mul]
    rw [h1, Nat.pow_succ, Nat.mul_add, ← Nat.mul_assoc]
    omega
theorem val_be {k n : Nat} (h : n < 256 ^ k) : val (be k n) = n := by
  unfold val
  rw [valo_be, Nat.mul_zero, Nat.zero_add, Nat.mod_eq_of_lt h]
theorem valo_lt (l : List Nat) (hl : ∀ x ∈ l, x < 256) (u : Nat) : valo u l < 256 ^ l.length * (u + 1) := by
  induction l generalizing u with
  | nil => simp [valo]
  | cons x l ih =>
    have hx := hl x (by simp)
    have h := ih (fun y hy => hl y (by simp [hy])) (256 * u + x)
    rw [valo_cons, List.length_cons, Nat.pow_succ, Nat.mul_assoc]
    exact Nat.lt_of_lt_of_le h (Nat.mul_le_mul_left _ (by omega))
theorem val_lt {l : List Nat} (hl : ∀ x ∈ l, x < 256) : val l < 256 ^ l.length := by
  have := valo_lt l hl 0
  simpa [val] using this
theorem pow_le {j k : Nat} (h : j ≤ k) : 256 ^ j ≤ 256 ^ k := Nat.pow_le_pow_right (by decide) h
theorem take_snoc {l : List Nat} {k : Nat} (h : k < l.length) : l.take (k + 1) = l.take k ++ [l.getD k 0] := by
  rw [List.take_succ_eq_append_getElem h, List.getD_eq_getElem?_getD, List.getElem?_eq_getElem h]
  rfl
theorem val_take {l : List Nat} {k : Nat} (h : k < l.length) : val (l.take (k + 1)) = 256 * val (l.take k) + l.getD k 0 := by
  rw [take_snoc h, val_snoc]
theorem mem_take {l : List Nat} (hl : ∀ x ∈ l, x < 256) (k : Nat) : ∀ x ∈ l.take k, x < 256 := fun x hx => hl x (List.mem_of_mem_take hx)
theorem mem_drop {l : List Nat} (hl : ∀ x ∈ l, x < 256) (k : Nat) : ∀ x ∈ l.drop k, x < 256 := fun x hx => hl x (List.mem_of_mem_drop hx)
theorem mem_app {l m : List Nat} (hl : ∀ x ∈ l, x < 256) (hm : ∀ x ∈ m, x < 256) : ∀ x ∈ l ++ m, x < 256 := fun x hx => by
  rcases List.mem_append.1 hx with h | h
  · exact hl x h
  · exact hm x h
theorem val_take_lt {l : List Nat} (hl : ∀ x ∈ l, x < 256) {k m : Nat} (h : k ≤ m) : val (l.take k) < 256 ^ m :=
  Nat.lt_of_lt_of_le (val_lt (mem_take hl k)) (pow_le (by rw [List.length_take]; omega))

/-- Whether a number fits in a size that is one. -/
def fitB (n : Nat) (size : Int) : Bool := decide (1 ≤ size ∧ size ≤ 8 ∧ n < 256 ^ size.toNat)
theorem fit_of {n : Nat} {size : Int} (h : fitB n size = true) : 1 ≤ size ∧ size ≤ 8 ∧ n < 256 ^ size.toNat := by simpa [fitB] using h
theorem fit_mk {n : Nat} {size : Int} (h1 : 1 ≤ size) (h2 : size ≤ 8) (h3 : n < 256 ^ size.toNat) : fitB n size = true := by simp [fitB, h1, h2, h3]
theorem fit_no1 {n : Nat} {size : Int} (h : ¬ (1 ≤ size ∧ size ≤ 8)) : fitB n size = false := by
  simp only [fitB, decide_eq_false_iff_not]
  omega
theorem fit_no2 {n : Nat} {size : Int} (h : ¬ n < 256 ^ size.toNat) : fitB n size = false := by
  simp only [fitB, decide_eq_false_iff_not]
  exact fun hh => h hh.2.2
/-- What a writer has behind a number: bytes, or the error. -/
def wnum (s : Option (List Nat)) (n : Nat) (size : Int) : Option (List Nat) :=
  match s with
  | none => none
  | some l => if fitB n size then some (l ++ be size.toNat n) else none
theorem wnum_none (n : Nat) (size : Int) : wnum none n size = none := rfl
theorem wnum_yes {n : Nat} {size : Int} (l : List Nat) (h : fitB n size = true) : wnum (some l) n size = some (l ++ be size.toNat n) := by simp [wnum, h]
theorem wnum_no {n : Nat} {size : Int} (l : List Nat) (h : fitB n size = false) : wnum (some l) n size = none := by simp [wnum, h]
def wrun (s : Option (List Nat)) (b : List Nat) : Option (List Nat) :=
  match wnum s b.length 4 with
  | none => none
  | some l => some (l ++ b)
/-- A thing. -/
structure Th where
  kind : Nat
  n : Nat
  size : Int
  run : List Nat
def wth (s : Option (List Nat)) (t : Th) : Option (List Nat) :=
  if t.kind % 4 = 0 then wnum s t.n t.size else if t.kind % 4 = 1 then wnum s t.n 8 else if t.kind % 4 = 2 then wnum s (t.n % 2) 1 else wrun s t.run
def wall (s : Option (List Nat)) (l : List Th) : Option (List Nat) := l.foldl wth s

/-- What a reader has: an error, and bytes that are still to be read (none behind an error). -/
def rnum (s : Nat × List Nat) (size : Int) : Nat × (Nat × List Nat) :=
  if s.1 ≠ 0 then (0, s) else if ¬ (1 ≤ size ∧ size ≤ 8) then (0, (1, [])) else if s.2.length < size.toNat then (0, (2, [])) else (val (s.2.take size.toNat), (0, s.2.drop size.toNat))
def rbool (s : Nat × List Nat) : Bool × (Nat × List Nat) := (decide ((rnum s 1).1 = 1), if (rnum s 1).1 ≤ 1 then (rnum s 1).2 else (2, []))
def rrun (s : Nat × List Nat) : List Nat × (Nat × List Nat) :=
  if (rnum s 4).2.1 ≠ 0 then ([], (rnum s 4).2) else if (rnum s 4).2.2.length < (rnum s 4).1 then ([], (2, [])) else ((rnum s 4).2.2.take (rnum s 4).1, (0, (rnum s 4).2.2.drop (rnum s 4).1))
def rdone (s : Nat × List Nat) : Nat := if 0 < s.2.length then 2 else s.1
/-- How many there are, at most, behind what was read. -/
theorem rnum_len (s : Nat × List Nat) (m : Int) : (rnum s m).2.2.length ≤ s.2.length := by
  unfold rnum
  split
  · exact Nat.le_refl _
  · split
    · exact Nat.zero_le _
    · split
      · exact Nat.zero_le _
      · simp
theorem rnum_mem {s : Nat × List Nat} (h : ∀ x ∈ s.2, x < 256) (m : Int) : ∀ x ∈ (rnum s m).2.2, x < 256 := by
  unfold rnum
  split
  · exact h
  · split
    · simp
    · split
      · simp
      · exact mem_drop h _
theorem rnum_lt {s : Nat × List Nat} (h : ∀ x ∈ s.2, x < 256) (k : Nat) (m : Int) (hm : m = (k : Int)) : (rnum s m).1 < 256 ^ k := by
  subst hm
  unfold rnum
  split
  · exact Nat.pow_pos (by decide)
  · split
    · exact Nat.pow_pos (by decide)
    · split
      · exact Nat.pow_pos (by decide)
      · exact val_take_lt h (by simp)
theorem rnum_err {s : Nat × List Nat} (m : Int) (h : s.1 ≠ 0 → s.2 = []) : (rnum s m).2.1 ≠ 0 → (rnum s m).2.2 = [] := by
  unfold rnum
  split
  · exact h
  · split
    · exact fun _ => rfl
    · split
      · exact fun _ => rfl
      · exact fun h0 => absurd rfl h0
/-- No thing. -/
def t0 : Th := ⟨0, 0, 0, []⟩
/-- How many bytes there are in runs. -/
def tot (l : List Th) : Nat := (l.map fun t => t.run.length).sum
theorem tot_append (l m : List Th) : tot (l ++ m) = tot l + tot m := by simp [tot]
theorem tot_take (l : List Th) (k : Nat) : tot (l.take k) ≤ tot l := by
  have h := tot_append (l.take k) (l.drop k)
  rw [List.take_append_drop] at h
  omega
theorem take_th {l : List Th} {k : Nat} (h : k < l.length) : l.take (k + 1) = l.take k ++ [l.getD k t0] := by
  rw [List.take_succ_eq_append_getElem h, List.getD_eq_getElem?_getD, List.getElem?_eq_getElem h]
  rfl
theorem tot_succ {l : List Th} {k : Nat} (h : k < l.length) : tot (l.take (k + 1)) = tot (l.take k) + (l.getD k t0).run.length := by
  rw [take_th h, tot_append]
  simp [tot]
def fitsB (l : List Th) : Bool := decide (l.length ≤ 100 ∧ tot l ≤ 1000)
theorem fits_of {l : List Th} (h : fitsB l = true) : l.length ≤ 100 ∧ tot l ≤ 1000 := by simpa [fitsB] using h
theorem wall_succ (s : Option (List Nat)) {l : List Th} {k : Nat} (h : k < l.length) : wall s (l.take (k + 1)) = wth (wall s (l.take k)) (l.getD k t0) := by
  rw [take_th h]
  simp [wall, List.foldl_append]
theorem wnum_len {s : Option (List Nat)} {m : Nat} (h : ∀ l, s = some l → l.length ≤ m) (n : Nat) (size : Int) : ∀ l, wnum s n size = some l → l.length ≤ m + 8 := by
  intro l hl
  match s, h, hl with
  | none, _, hl => cases hl
  | some l', h, hl =>
    have h' := h l' rfl
    unfold wnum at hl
    by_cases hf : fitB n size = true
    · obtain ⟨_, h2, _⟩ := fit_of hf
      simp only [hf, if_true, Option.some.injEq] at hl
      subst hl
      simp [be_length]
      omega
    · simp [hf] at hl
theorem wth_len {s : Option (List Nat)} {m : Nat} (h : ∀ l, s = some l → l.length ≤ m) (t : Th) : ∀ l, wth s t = some l → l.length ≤ m + 8 + t.run.length := by
  intro l hl
  unfold wth at hl
  split at hl
  · have := wnum_len h _ _ l hl
    omega
  · split at hl
    · have := wnum_len h _ _ l hl
      omega
    · split at hl
      · have := wnum_len h _ _ l hl
        omega
      · unfold wrun at hl
        split at hl
        · cases hl
        · rename_i l' hw
          have := wnum_len h _ _ l' hw
          injection hl with hl
          subst hl
          simp
          omega
theorem wall_len (l : List Th) (k : Nat) (hk : k ≤ l.length) : ∀ b, wall (some []) (l.take k) = some b → b.length ≤ 8 * k + tot (l.take k) := by
  induction k with
  | zero =>
    intro b hb
    simp [wall] at hb
    subst hb
    simp
  | succ k ih =>
    intro b hb
    have hlt : k < l.length := by omega
    rw [wall_succ _ hlt] at hb
    have := wth_len (ih (by omega)) _ b hb
    rw [tot_succ hlt]
    omega
end Go.Proofs.YtbahilakfgbgpaaDoor.Oc
