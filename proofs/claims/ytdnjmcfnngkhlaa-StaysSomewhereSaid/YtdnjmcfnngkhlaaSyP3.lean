/- Walks over package stays: which stay has a minute (a labelled loop), its zone. Condition: the list reads as stays. -/
import Derived.Test.YtdnjmcfnngkhlaaSyP2
namespace Go.Proofs.Ytdnjmcfnngkhlaa
open Go.RowKit

namespace Sy
/-- Which one has a minute. -/
def Placed (S : List Sy) (m r : Int) : Prop := (r = -1 ∧ S.find? (has m) = none) ∨ ∃ (k : Nat) (x : Sy), r = k ∧ S[k]? = some x ∧ S.find? (has m) = some x
def PlaceEnd (S : List Sy) (m : Int) (w : World) (e : Ending) (w' : World) : Prop := ∃ r : Int, Placed S m r ∧ e = .returned (.int .i64 r) ∧ Below w.heap.size w w'
/-- None of the first ones has it. -/
def Nones (S : List Sy) (m : Int) (k : Nat) : Prop := ∀ i s, i < k → S[i]? = some s → has m s = false
theorem find_at {S : List Sy} {m : Int} {k : Nat} {x : Sy} (h : Nones S m k) (hx : S[k]? = some x) (hh : has m x = true) : S.find? (has m) = some x := by
  have hk := (List.getElem?_eq_some_iff.1 hx)
  obtain ⟨hlt, e⟩ := hk
  rw [List.find?_eq_some_iff_append]
  refine ⟨hh, S.take k, S.drop (k + 1), ?_, fun a ha => ?_⟩
  · rw [← e, ← List.drop_eq_getElem_cons hlt, List.take_append_drop]
  · obtain ⟨i, hi⟩ := List.mem_iff_getElem?.1 ha
    have hik : i < k := by
      have := (List.getElem?_eq_some_iff.1 hi).1
      rw [List.length_take] at this
      omega
    rw [List.getElem?_take_of_lt hik] at hi
    simp [h i a hik hi]
theorem find_no {S : List Sy} {m : Int} (h : Nones S m S.length) : S.find? (has m) = none := by
  rw [List.find?_eq_none]
  intro s hs
  obtain ⟨i, hi⟩ := List.mem_iff_getElem?.1 hs
  simp [h i s (List.getElem?_eq_some_iff.1 hi).1 hi]
theorem nones_next {S : List Sy} {m : Int} {k : Nat} {x : Sy} (h : Nones S m k) (hx : S[k]? = some x) (hh : has m x = false) : Nones S m (k + 1) := fun i s hi hs => by
  by_cases hlt : i < k
  · exact h i s hlt hs
  · obtain rfl : i = k := by omega
    rw [hx] at hs
    rw [← Option.some.inj hs]
    exact hh
theorem has_no {m : Int} {s : Sy} (h : ¬ (s.frm ≤ m ∧ (s.to = -1 ∨ m < s.to))) : has m s = false := by
  cases hb : has m s
  · rfl
  · exact absurd (has_iff.1 hb) h
theorem nones_rest {S : List Sy} (hR : Right S) {m : Int} {k : Nat} {x : Sy} (h : Nones S m k) (hx : S[k]? = some x) (hm : m < x.frm) : Nones S m S.length := fun i s _ hs => by
  by_cases hlt : i < k
  · exact h i s hlt hs
  · have := rights_le hR hx (i - k) s (by rw [show k + (i - k) = i by omega]; exact hs)
    exact has_no (fun hh => by omega)
set_option maxRecDepth 100000 in
set_option maxHeartbeats 8000000 in
theorem pplace_any (p : Option Addr) (n c : Nat) (S : List Sy) (m : Int) (w : World) (h : Rw 3 scells w p n S) (hn : n ≤ 1000000) (hR : Right S) :
    Calls Try.prog 14 #[.slice p n c, .int .i64 m] w (PlaceEnd S m w) := by
  have hn' : (n : Int) ≤ 1000000 := by omega
  have H := Lib.hid h
  have HN := Lib.hid h.1
  have HR := Lib.hid hR
  have B0 := Lib.hid (Below.refl w.heap.size w)
  clear h hR
  go_enter Try.func14, Try.ntmps14
  go_wp2
  go_step3
  go_wp2
  go_step3
  go_wp2
  go_loopw [5, 10] (fun va i wr => ∃ k : Nat, k ≤ n ∧ va = .int .i64 (-1) ∧ i = .int .i64 k ∧ Hid (Below w.heap.size w wr) ∧ Hid (Nones S m k)) (fun _ i _ => n - (intOf i).toNat)
  case atStart => exact ⟨0, Nat.zero_le _, rfl, rfl, B0, Lib.hid (fun i s hi => by omega)⟩
  case round =>
    clear B0
    obtain ⟨k, hk, rfl, rfl, HB, HA⟩ := hrel
    by_cases hlt : k < n
    · obtain ⟨x, hx⟩ : ∃ x, S[k]? = some x := ⟨_, List.getElem?_eq_getElem (by rw [HN.out]; exact hlt)⟩
      obtain ⟨b, o, rfl, e0, e1, e2⟩ := rw_at (H.out.keep scells_len HB.out) hx
      have hk3 : (k : Int) < (n : Int) := by omega
      have HX := Lib.hid hx
      have B1 := Lib.hid (HB.out.alloc (HB.out.size) (.cells (scells x).toArray 33))
      clear hx
      by_cases hf : m < x.frm
      · have HE := Lib.hid (find_no (nones_rest HR.out HA.out HX.out hf))
        go_wp2
        try rw [Exit.noGoto_ret]
        go_ret
        exact ⟨-1, .inl ⟨rfl, HE.out⟩, rfl, B1.out⟩
      · by_cases ht : m < x.to
        · have HE := Lib.hid (find_at HA.out HX.out (has_iff.2 ⟨by omega, .inr ht⟩))
          go_wp2
          try rw [Exit.noGoto_ret]
          go_ret
          exact ⟨k, .inr ⟨k, x, rfl, HX.out, HE.out⟩, rfl, B1.out⟩
        · by_cases hg : x.to = -1
          · have HE := Lib.hid (find_at HA.out HX.out (has_iff.2 ⟨by omega, .inl hg⟩))
            have te : (x.to == -1) = true := by simp [hg]
            have hg' := Lib.hid hg
            clear hg
            go_wp2
            try rw [Exit.noGoto_ret]
            go_ret
            exact ⟨k, .inr ⟨k, x, rfl, HX.out, HE.out⟩, rfl, B1.out⟩
          · have te : (x.to == -1) = false := by simp [hg]
            have A1 := Lib.hid (nones_next HA.out HX.out (has_no (fun hh => by rcases hh.2 with h | h; exact hg h; exact ht h)))
            clear hg
            go_wp2
            go_roundw
            case rel => exact ⟨k + 1, by omega, rfl, by go_num, B1, A1⟩
            case measure => simp [intOf]; omega
    · obtain rfl : k = n := by omega
      have HE := Lib.hid (find_no (by rw [HN.out]; exact HA.out))
      go_wp2
      try rw [Exit.noGoto_ret]
      go_ret
      exact ⟨-1, .inl ⟨rfl, HE.out⟩, rfl, HB.out⟩
set_option maxRecDepth 100000 in
set_option maxHeartbeats 8000000 in
theorem pzone_any (p : Option Addr) (n c : Nat) (S : List Sy) (m : Int) (w : World) (h : Rw 3 scells w p n S) (hn : n ≤ 1000000) :
    Calls Try.prog 7 #[.slice p n c, .int .i64 m] w fun e w' => e = .returned (.int .i64 (zoneV S m)) ∧ Below w.heap.size w w' := by
  have hn' : (n : Int) ≤ 1000000 := by omega
  have H := Lib.hid h
  have CR := Lib.hid (pright_any p n c S w h hn)
  by_cases hR : Right S
  · have CP := Lib.hid (fun W (hW : Rw 3 scells W p n S) => pplace_any p n c S m W hW hn hR)
    have HB := Lib.hid (right_yes hR)
    unfold zoneV
    rw [if_pos HB.out]
    clear h hR
    go_enter Try.func7, Try.ntmps7
    go_wp2_with fail
    refine CR.out.mono ?_
    rintro e w1 ⟨rfl, hb⟩
    rw [HB.out]
    have B1 := Lib.hid hb
    have H1 := Lib.hid (H.out.keep scells_len hb)
    clear hb CR H
    go_wp2_with fail
    refine (CP.out _ H1.out).mono ?_
    rintro e w2 ⟨r, hr, rfl, hb⟩
    have B2 := Lib.hid (B1.out.trans (hb.mono B1.out.size))
    have H2 := Lib.hid (H1.out.keep scells_len hb)
    clear hb CP H1 B1
    rcases hr with ⟨rfl, hf⟩ | ⟨k, x, rfl, hx, hf⟩
    · have HZ : Hid (zoneS S m = 0) := Lib.hid (by unfold zoneS; rw [hf])
      clear hf
      go_wp2
      go_ret
      exact ⟨by rw [HZ.out]; rfl, B2.out⟩
    · have HZ : Hid (zoneS S m = x.zone) := Lib.hid (by unfold zoneS; rw [hf])
      obtain ⟨b, o, rfl, e0, e1, e2⟩ := rw_at H2.out hx
      have hk3 : (k : Int) < (n : Int) := by have := (List.getElem?_eq_some_iff.1 hx).1; have := H2.out.1; omega
      have hne : ((k : Int) == -1) = false := by simp
      clear hf hx
      go_wp2
      go_ret
      exact ⟨by rw [HZ.out]; rfl, B2.out⟩
  · have HB := Lib.hid (right_no hR)
    unfold zoneV
    rw [if_neg (by rw [HB.out]; decide)]
    clear h hR
    go_enter Try.func7, Try.ntmps7
    go_wp2_with fail
    refine CR.out.mono ?_
    rintro e w1 ⟨rfl, hb⟩
    rw [HB.out]
    have B1 := Lib.hid hb
    clear hb CR H
    go_wp2
    go_ret
    exact ⟨rfl, B1.out⟩
end Sy
end Go.Proofs.Ytdnjmcfnngkhlaa
