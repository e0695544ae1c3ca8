/- Walks over the text of a number, of package sat and of the document's answer: both are the decimal figures of the number, fitted. Condition: the table of powers of ten is as the program lays it. -/
import Derived.Test.YtghefljedmidpaaDoorW2
import Derived.Test.YtghefljedmidpaaDoorShelf
import Derived.Lib.AppendIntMem
import Derived.Lib.SmallJoins
import Derived.Lib.Hide
namespace Go.Proofs.YtghefljedmidpaaDoor
open Go.RowKit Go.Sort

namespace St
/-- Bytes as a string. -/
def bs (l : List UInt8) : ByteArray := ⟨l.toArray⟩
theorem bs_append (a b : List UInt8) : bs a ++ bs b = bs (a ++ b) := by
  unfold bs
  ext1
  rw [ByteArray.data_append]
  simp
theorem toList_bs (l : List UInt8) : (bs l).data.toList = l := by simp [bs]
theorem bs_size (l : List UInt8) : (bs l).size = l.length := by
  show l.toArray.size = _; simp
theorem dig_len (k : Nat) : ∀ n, n < 10 ^ (k + 1) → (Lib.decDigits n).length ≤ k + 1 := by
  induction k with
  | zero => intro n h; rw [Lib.decDigits_one (by simpa using h)]; simp
  | succ k ih =>
    intro n h
    rw [Lib.decDigits]
    split
    · simp
    · have := ih (n / 10) (by rw [Nat.pow_succ] at h; omega)
      simp; omega
theorem dig_size (n : Nat) (h : n ≤ 4611686018427387904) : (bs (Lib.decDigits n)).size ≤ 19 := by
  rw [bs_size]
  exact dig_len 18 n (Nat.lt_of_le_of_lt h (by decide))
/-- The text of a number, fitted. -/
def txt (n : Int) : ByteArray := bs (Lib.decDigits (fit n).toNat)
end St

/-- The library's table is as the program lays it, and stays so while nothing that is there turns. -/
def Ready (w : World) : Prop := Lib.TabBelow Tryd.prog w.heap.size w "internal/strconv.uint64pow10" .u64 Lib.pow10Tab
theorem Ready.on {w w1 : World} (h : Ready w) (hb : Below w.heap.size w w1) : Ready w1 := fun w' h' => h w' (hb.trans (h'.mono hb.size))
theorem Ready.tab {w : World} (h : Ready w) : Lib.TabIs Tryd.prog w "internal/strconv.uint64pow10" .u64 Lib.pow10Tab := h w (Below.refl _ _)

theorem below_grow (w : World) (n : Nat) (os : Array Obj) : Below w.heap.size w (grow (w.drewN n) os) :=
  ⟨rfl, rfl, rfl, by simp [grow], fun k hk => by
    show (w.heap ++ os)[k]? = _
    rw [Array.getElem?_append_left hk]⟩
theorem bl_trans {a b c : World} (h : Below a.heap.size a b) (k : Below b.heap.size b c) : Below a.heap.size a c := h.trans (k.mono h.size)
theorem ret_str {a b : ByteArray} (h : a = b) : Ending.returned (.string a) = .returned (.string b) := by rw [h]

/-- strconv.Itoa of a number from 0 on. -/
theorem itoa_any (n : Int) (h0 : 0 ≤ n) (h : n ≤ 9223372036854775807) (w : World) (hr : Ready w) :
    Calls Tryd.prog 18 #[.int .i64 n] w fun e w' => e = .returned (.string (St.bs (Lib.decDigits n.toNat))) ∧ Below w.heap.size w w' :=
  (Tryd.strconv_Itoa n (by omega) (by omega) w hr.tab).mono fun e w' ⟨he, k, os, hw⟩ => by
    subst he; subst hw
    obtain ⟨m, rfl⟩ := Int.eq_ofNat_of_zero_le h0
    rw [Lib.itoa_nonneg]
    exact ⟨rfl, below_grow _ _ _⟩

theorem text_any (n : Int) (w : World) (hr : Ready w) :
    Calls Tryd.prog 14 #[.int .i64 n] w fun e w' => e = .returned (.string (St.txt n)) ∧ Below w.heap.size w w' := by
  have F := fit_any n
  obtain ⟨f0, f1⟩ := St.fit_bd n
  have I := itoa_any (St.fit n) f0 (by omega) w hr
  have E := Lib.hid (show St.txt n = St.bs (Lib.decDigits (St.fit n).toNat) from rfl)
  generalize St.fit n = x at *
  generalize St.bs (Lib.decDigits x.toNat) = s at *
  have F' := Lib.hid F
  have I' := Lib.hid I
  clear F I hr
  go_enter Tryd.func14, Tryd.ntmps14
  go_wp2_with fail
  refine (F'.out _).mono ?_
  rintro e w' ⟨rfl, rfl⟩
  go_wp2_with fail
  refine I'.out.mono ?_
  rintro e w' ⟨rfl, hb⟩
  go_wp2
  go_ret
  exact ⟨ret_str E.out.symm, hb⟩

def dig (d : Nat) : UInt8 := UInt8.ofNat (48 + d)
/-- A slice of one byte, as a string. -/
theorem one_byte (d : Nat) (z : Int) (hz : z = 48 + (d : Int)) (h : d < 10) (w : World) : (convert 31 9 (.slice (some ⟨w.heap.size, 0, none⟩) 1 1)).run Tryd.prog (w.alloc (.cells #[.int .u8 z] 5)) = .ok (.string (St.bs [dig d])) (w.alloc (.cells #[.int .u8 z] 5)) := by
  refine run_convert_bytes_back (P := Tryd.prog) _ 31 9 5 ⟨w.heap.size, 0, none⟩ 1 [dig d] Tryd.underlying31 Tryd.underlying5 Tryd.underlying9 (fun j hj => ?_)
  have : j = 0 := by simp at hj; omega
  subst this
  subst hz
  have e := Joins.cell_alloc_mark_at w #[.int .u8 (48 + (d : Int))] 5 (0, 0) w.heap.size 0 rfl
  refine (show _ = _ from e).trans ?_
  have e2 : (dig d).toNat = 48 + d := by unfold dig; simp; omega
  simp [e2]

/-- The document's answer's text of a number. -/
theorem rfig (k : Nat) : ∀ (z : Int) (n : Nat), St.fit z = (n : Int) → n < 10 ^ (k + 1) → ∀ w, Calls Tryd.prog 15 #[.int .i64 z] w fun e w' => e = .returned (.string (St.bs (Lib.decDigits n))) ∧ Below w.heap.size w w' := by
  induction k with
  | zero =>
    intro z n hz hk w
    have F := rfit_any z
    have hn := (St.fit_bd z).2
    rw [hz] at F hn
    have F' := Lib.hid F
    clear F hz
    have h10 : n < 10 := by simpa using hk
    have h10' : (n : Int) < 10 := by omega
    have hcv := one_byte n (48 + (n : Int) % 10) (by omega) h10
    have HE := Lib.hid (show Lib.decDigits n = [dig n] from Lib.decDigits_one h10)
    go_enter Tryd.func15, Tryd.ntmps15
    go_wp2_with fail
    refine (F'.out _).mono ?_
    rintro e w' ⟨rfl, rfl⟩
    go_wp2
    go_ret
    exact ⟨ret_str (by rw [HE.out]), (Below.refl _ _).alloc (Nat.le_refl _) _⟩
  | succ k ih =>
    intro z n hz hk w
    have F := rfit_any z
    have hn := (St.fit_bd z).2
    rw [hz] at F hn
    have F' := Lib.hid F
    clear F hz
    by_cases h10 : n < 10
    · have h10' : (n : Int) < 10 := by omega
      have hcv := one_byte n (48 + (n : Int) % 10) (by omega) h10
      have HE := Lib.hid (show Lib.decDigits n = [dig n] from Lib.decDigits_one h10)
      clear ih
      go_enter Tryd.func15, Tryd.ntmps15
      go_wp2_with fail
      refine (F'.out _).mono ?_
      rintro e w' ⟨rfl, rfl⟩
      go_wp2
      go_ret
      exact ⟨ret_str (by rw [HE.out]), (Below.refl _ _).alloc (Nat.le_refl _) _⟩
    · have h10' : (10 : Int) ≤ n := by omega
      have hcv := one_byte (n % 10) (48 + (n : Int) % 10) (by omega) (by omega)
      have IH := Lib.hid (fun W => ih ((n : Int) / 10) (n / 10) ((St.fit_mid (by omega) (by omega)).trans (by omega)) (by rw [Nat.pow_succ] at hk; omega) W)
      have HE := Lib.hid (show St.bs (Lib.decDigits (n / 10)) ++ St.bs [dig (n % 10)] = St.bs (Lib.decDigits n) by
        rw [St.bs_append]; conv => rhs; rw [Lib.decDigits, dif_neg h10]
        rfl)
      have s1 := St.dig_size (n / 10) (by omega)
      have s2 : (St.bs [dig (n % 10)]).size ≤ 1 := by rw [St.bs_size]; simp
      clear ih
      go_enter Tryd.func15, Tryd.ntmps15
      go_wp2_with fail
      refine (F'.out _).mono ?_
      rintro e w' ⟨rfl, rfl⟩
      go_wp2_with fail
      refine (IH.out _).mono ?_
      rintro e w' ⟨rfl, hb⟩
      go_wp2
      go_ret
      exact ⟨ret_str HE.out, ((Below.refl _ _).alloc (Nat.le_refl _) _).trans (hb.mono (by simp))⟩

theorem rtext_any (n : Int) (w : World) :
    Calls Tryd.prog 15 #[.int .i64 n] w fun e w' => e = .returned (.string (St.txt n)) ∧ Below w.heap.size w w' := by
  obtain ⟨f0, f1⟩ := St.fit_bd n
  exact rfig 18 n (St.fit n).toNat (by omega) (by omega) w
end Go.Proofs.YtghefljedmidpaaDoor
