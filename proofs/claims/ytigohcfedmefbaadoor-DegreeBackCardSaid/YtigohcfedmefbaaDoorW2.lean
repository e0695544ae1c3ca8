/- Walks over the text functions of package degree and of the document's answer: a call's text is that of the plain definitions. Condition: the table of powers of ten and the variable ErrSyntax are as the program lays them. -/
import Derived.Test.YtigohcfedmefbaaDoorW1
import Derived.Test.YtigohcfedmefbaaDoorShelf
import Derived.Test.YtigohcfedmefbaaDoorText
import Derived.Lib.AppendIntMem
import Derived.Lib.SmallJoins
import Derived.Deep.QuietTactic
import Derived.BigQuiet
namespace Go.Proofs.YtigohcfedmefbaaDoor
open Go.RowKit Go.Sort

/-- The library's table and variable are as the program lays them, and stay so while nothing that is there turns. -/
def Ready (w : World) : Prop := Lib.TabBelow Tryd.prog w.heap.size w "internal/strconv.uint64pow10" .u64 Lib.pow10Tab ∧ ∃ tp p, ∀ w', Below w.heap.size w w' → w'.cell? ⟨1, 0, none⟩ = some (.iface tp p)
theorem Ready.on {w w1 : World} (h : Ready w) (hb : Below w.heap.size w w1) : Ready w1 := by
  obtain ⟨h1, tp, p, h2⟩ := h
  exact ⟨fun w' h' => h1 w' (hb.trans (h'.mono hb.size)), tp, p, fun w' h' => h2 w' (hb.trans (h'.mono hb.size))⟩
theorem Ready.tab {w : World} (h : Ready w) : Lib.TabIs Tryd.prog w "internal/strconv.uint64pow10" .u64 Lib.pow10Tab := h.1 w (Below.refl _ _)
theorem Ready.err {w : World} (h : Ready w) : ∃ tp p, w.cell? ⟨1, 0, none⟩ = some (.iface tp p) := let ⟨_, tp, p, h2⟩ := h; ⟨tp, p, h2 w (Below.refl _ _)⟩

theorem below_grow (w : World) (n : Nat) (os : Array Obj) : Below w.heap.size w (grow (w.drewN n) os) :=
  ⟨rfl, rfl, rfl, by simp [grow], fun k hk => by
    show (w.heap ++ os)[k]? = _
    rw [Array.getElem?_append_left hk]⟩
theorem bl_trans {a b c : World} (h : Below a.heap.size a b) (k : Below b.heap.size b c) : Below a.heap.size a c := h.trans (k.mono h.size)

theorem ret_str {a b : ByteArray} (h : a = b) : Ending.returned (.string a) = .returned (.string b) := by rw [h]

/-- strconv.Itoa of a number from 0 on. -/
theorem itoa_any (n : Int) (h0 : 0 ≤ n) (h : n ≤ 9223372036854775807) (w : World) (hr : Ready w) :
    Calls Tryd.prog 30 #[.int .i64 n] w fun e w' => e = .returned (.string (Hf.bs (Lib.decDigits n.toNat))) ∧ Below w.heap.size w w' :=
  (Tryd.strconv_Itoa n (by omega) (by omega) w hr.tab).mono fun e w' ⟨he, k, os, hw⟩ => by
    subst he; subst hw
    obtain ⟨m, rfl⟩ := Int.eq_ofNat_of_zero_le h0
    rw [Lib.itoa_nonneg]
    exact ⟨rfl, below_grow _ _ _⟩

theorem figL_bs (t : Int) (h : 0 ≤ t) : Hf.bs (Lib.decDigits (t / 10).toNat) ++ { data := #[46] } ++ Hf.bs (Lib.decDigits (t % 10).toNat) = Hf.bs (Hf.figL t.natAbs) := by
  have e1 : (t / 10).toNat = t.natAbs / 10 := by omega
  have e2 : (t % 10).toNat = t.natAbs % 10 := by omega
  have e3 : ({ data := #[46] } : ByteArray) = Hf.bs [46] := rfl
  rw [e1, e2, e3, Hf.bs_append, Hf.bs_append]
  rfl

theorem figures_any (t : Int) (h0 : 0 ≤ t) (h1 : t ≤ 1099511627776) (w : World) (hr : Ready w) :
    Calls Tryd.prog 21 #[.int .i64 t] w fun e w' => e = .returned (.string (Hf.bs (Hf.figL t.natAbs))) ∧ Below w.heap.size w w' := by
  have HE := Lib.hid (figL_bs t h0)
  have s1 := Hf.dig_size (t / 10).toNat (by omega)
  have s2 := Hf.dig_size (t % 10).toNat (by omega)
  go_enter Tryd.func21, Tryd.ntmps21
  go_wp2_with fail
  refine (itoa_any _ (by omega) (by omega) _ hr).mono ?_
  rintro e w1 ⟨rfl, hb1⟩
  have hr1 := hr.on hb1
  go_wp2_with fail
  refine (itoa_any _ (by omega) (by omega) _ hr1).mono ?_
  rintro e w2 ⟨rfl, hb2⟩
  have hb := bl_trans hb1 hb2
  clear hr1 hb1 hb2
  go_wp2
  go_ret
  exact ⟨ret_str HE.out, hb⟩

theorem neg_bs (l : List UInt8) : ({ data := #[45] } : ByteArray) ++ Hf.bs l = Hf.bs (45 :: l) := by
  have e3 : ({ data := #[45] } : ByteArray) = Hf.bs [45] := rfl
  rw [e3, Hf.bs_append]; rfl

/-- Text of a tenth. -/
theorem text_yes (t : Int) (h : Hf.IsT t) (w : World) (hr : Ready w) :
    Calls Tryd.prog 12 #[.int .i64 t] w fun e w' => e = .returned (.string (Hf.bs (Hf.textL t))) ∧ Below w.heap.size w w' := by
  obtain ⟨h1, h2⟩ := h
  by_cases hn : t < 0
  · have HE := Lib.hid (show ({ data := #[45] } : ByteArray) ++ Hf.bs (Hf.figL t.natAbs) = Hf.bs (Hf.textL t) by
      rw [neg_bs]; unfold Hf.textL; rw [if_pos hn])
    have s1 := Hf.fig_size t.natAbs (by omega)
    go_enter Tryd.func12, Tryd.ntmps12
    go_wp2_with (first | (go_at_call 20; refine (isTenth_yes _ (by omega) (by omega) _).mono ?_; rintro e w' ⟨rfl, rfl⟩) | (go_at_call 21; refine (figures_any _ (by omega) (by omega) _ hr).mono ?_; rintro e w' ⟨rfl, hb⟩))
    go_ret
    exact ⟨ret_str HE.out, hb⟩
  · have HE := Lib.hid (show Hf.bs (Hf.figL t.natAbs) = Hf.bs (Hf.textL t) by
      unfold Hf.textL; rw [if_neg hn])
    have hn' : 0 ≤ t := by omega
    go_enter Tryd.func12, Tryd.ntmps12
    go_wp2_with (first | (go_at_call 20; refine (isTenth_yes _ (by omega) (by omega) _).mono ?_; rintro e w' ⟨rfl, rfl⟩) | (go_at_call 21; refine (figures_any _ (by omega) (by omega) _ hr).mono ?_; rintro e w' ⟨rfl, hb⟩))
    go_ret
    exact ⟨ret_str HE.out, hb⟩

/-- Text of what is no tenth. -/
theorem text_no (t : Int) (h : t < -1099511627776 ∨ 1099511627776 < t) (w : World) :
    Calls Tryd.prog 12 #[.int .i64 t] w fun e w' => e = .returned (.string { data := #[] }) ∧ w = w' := by
  go_enter Tryd.func12, Tryd.ntmps12
  go_wp2_with (go_at_call 20; refine (isTenth_no _ h _).mono ?_; rintro e w' ⟨rfl, rfl⟩)
  go_ret
  exact ⟨rfl, rfl⟩
end Go.Proofs.YtigohcfedmefbaaDoor
