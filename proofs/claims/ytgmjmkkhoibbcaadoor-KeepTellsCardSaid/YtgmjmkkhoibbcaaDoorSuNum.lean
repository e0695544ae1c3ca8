/- What may become of a lot, in plain numbers: the table, the names. No condition but those written. -/
namespace Go.Proofs.YtgmjmkkhoibbcaaDoor.Su

/-- The table, row by row; -1: nothing. -/
def tab : List Int := [1, 2, -1, 3, -1, -1, 2, -1, 3, 4, -1, 2, 1, 3, -1, -1, -1, -1, -1, -1, -1, -1, -1, -1, -1]
/-- The names. -/
def nm0 : ByteArray := { data := #[113, 117, 97, 114, 97, 110, 116, 105, 110, 101] }
def nm1 : ByteArray := { data := #[114, 101, 108, 101, 97, 115, 101, 100] }
def nm2 : ByteArray := { data := #[104, 101, 108, 100] }
def nm3 : ByteArray := { data := #[114, 101, 106, 101, 99, 116, 101, 100] }
def nm4 : ByteArray := { data := #[115, 104, 105, 112, 112, 101, 100] }
/-- Is it a status; is it an event. -/
def okB (s : Int) : Bool := decide (0 ≤ s ∧ s ≤ 4)
theorem okB_iff {s : Int} : okB s = true ↔ 0 ≤ s ∧ s < 5 := by
  simp [okB]
  omega
theorem okB_no {s : Int} (h : okB s = false) : s < 0 ∨ 5 ≤ s := by
  have : ¬(0 ≤ s ∧ s ≤ 4) := by simpa [okB] using h
  omega
theorem five {s : Int} (h : okB s = true) : s = 0 ∨ s = 1 ∨ s = 2 ∨ s = 3 ∨ s = 4 := by
  have := okB_iff.1 h
  omega
/-- What the table has behind an event; -1: nothing. -/
def cell (s e : Int) : Int := tab.getD (s.toNat * 5 + e.toNat) (-1)
/-- The status behind an event, and the error. -/
def aft (s e : Int) : Int := if okB s && okB e then (if cell s e = -1 then 0 else cell s e) else 0
def err (s e : Int) : Int := if okB s && okB e then (if cell s e = -1 then 8 else 0) else 1
theorem aft_arg {s e : Int} (h : (okB s && okB e) = false) : aft s e = 0 ∧ err s e = 1 := by simp [aft, err, h]
/-- The status of a name, and the error. -/
def prs (n : ByteArray) : Int := if n = nm0 then 0 else if n = nm1 then 1 else if n = nm2 then 2 else if n = nm3 then 3 else if n = nm4 then 4 else 0
def perr (n : ByteArray) : Int := if n = nm0 ∨ n = nm1 ∨ n = nm2 ∨ n = nm3 ∨ n = nm4 then 0 else 2
/-- A status's name. -/
def name (s : Int) : ByteArray := if s = 0 then nm0 else if s = 1 then nm1 else if s = 2 then nm2 else if s = 3 then nm3 else if s = 4 then nm4 else { data := #[] }
/-- Does nothing happen any more? -/
def fin (s : Int) : Bool := decide (s = 3 ∨ s = 4)

theorem ne01 : nm1 ≠ nm0 := by decide +kernel
theorem ne02 : nm2 ≠ nm0 := by decide +kernel
theorem ne03 : nm3 ≠ nm0 := by decide +kernel
theorem ne04 : nm4 ≠ nm0 := by decide +kernel
theorem ne12 : nm2 ≠ nm1 := by decide +kernel
theorem ne13 : nm3 ≠ nm1 := by decide +kernel
theorem ne14 : nm4 ≠ nm1 := by decide +kernel
theorem ne23 : nm3 ≠ nm2 := by decide +kernel
theorem ne24 : nm4 ≠ nm2 := by decide +kernel
theorem ne34 : nm4 ≠ nm3 := by decide +kernel
theorem prs0 : prs nm0 = 0 ∧ perr nm0 = 0 := by simp [prs, perr]
theorem prs1 : prs nm1 = 1 ∧ perr nm1 = 0 := by simp [prs, perr, ne01]
theorem prs2 : prs nm2 = 2 ∧ perr nm2 = 0 := by simp [prs, perr, ne02, ne12]
theorem prs3 : prs nm3 = 3 ∧ perr nm3 = 0 := by simp [prs, perr, ne03, ne13, ne23]
theorem prs4 : prs nm4 = 4 ∧ perr nm4 = 0 := by simp [prs, perr, ne04, ne14, ne24, ne34]
/-- Behind any event, from a status: what the end leans on. -/
theorem aft_ok {s e : Int} (h : err s e = 0) : okB s = true ∧ okB e = true ∧ okB (aft s e) = true := by
  by_cases hs : okB s && okB e
  · have h2 := hs
    simp only [Bool.and_eq_true] at h2
    refine ⟨h2.1, h2.2, ?_⟩
    rcases five h2.1 with rfl | rfl | rfl | rfl | rfl <;> rcases five h2.2 with rfl | rfl | rfl | rfl | rfl <;> first | (revert h; decide) | decide
  · have := (aft_arg (by simpa using hs)).2
    omega
/-- The names, by their numbers. -/
def nms (k : Nat) : ByteArray := name (k : Int)
theorem nms0 : nms 0 = nm0 := rfl
theorem nms1 : nms 1 = nm1 := rfl
theorem nms2 : nms 2 = nm2 := rfl
theorem nms3 : nms 3 = nm3 := rfl
theorem nms4 : nms 4 = nm4 := rfl
/-- Looked for: a name is none of the first ones. -/
def Past (n : ByteArray) (k : Nat) : Prop := ∀ j, j < k → n ≠ nms j
theorem past_zero (n : ByteArray) : Past n 0 := fun j h => by omega
theorem past_next {n : ByteArray} {k : Nat} (h : Past n k) (hn : ¬nms k = n) : Past n (k + 1) := fun j hj e => by
  by_cases hk : j < k
  · exact h j hk e
  · obtain rfl : j = k := by omega
    exact hn e.symm
theorem prs_at {n : ByteArray} {k : Nat} (hk : k < 5) (h : nms k = n) : prs n = k ∧ perr n = 0 := by
  subst h
  have : k = 0 ∨ k = 1 ∨ k = 2 ∨ k = 3 ∨ k = 4 := by omega
  rcases this with rfl | rfl | rfl | rfl | rfl
  · exact prs0
  · exact prs1
  · exact prs2
  · exact prs3
  · exact prs4
theorem prs_none {n : ByteArray} (h : Past n 5) : prs n = 0 ∧ perr n = 2 := by
  have h0 := h 0 (by decide)
  have h1 := h 1 (by decide)
  have h2 := h 2 (by decide)
  have h3 := h 3 (by decide)
  have h4 := h 4 (by decide)
  rw [nms0] at h0
  rw [nms1] at h1
  rw [nms2] at h2
  rw [nms3] at h3
  rw [nms4] at h4
  simp [prs, perr, h0, h1, h2, h3, h4]
end Go.Proofs.YtgmjmkkhoibbcaaDoor.Su
