/- Walks over package door: what alarms are. No condition but those written. -/
import Derived.Test.YtfdakkghikimcaaDrP8
import Derived.Test.YtfdakkghikimcaaSl
namespace Go.Proofs.Ytfdakkghikimcaa
open Go.RowKit Go.Maps

namespace Dr
open Se
/-- A run that may be. -/
def okR (r : Ru) : Prop := 0 ≤ r.a ∧ r.a < r.b ∧ r.b ≤ 1048576
theorem short_any (r : Ru) (j : Int) (g : Nat) (w : World) (hj : w.cell? ⟨g, 0, none⟩ = some (.int .i64 j)) (hg : g < w.heap.size) (hr : okR r) :
    Calls Try.prog 28 #[.agg #[.int .i64 r.a, .int .i64 r.b], .pointer (some ⟨g, 0, none⟩)] w fun e w' => e = .returned (.bool (!longB j r)) ∧ Below w.heap.size w w' := by
  obtain ⟨h0, h1, h2⟩ := hr
  have B0 := Lib.hid (alloc_below w (.cells #[.int .i64 r.a, .int .i64 r.b] 50))
  have k0 : (w.alloc (.cells #[.int .i64 r.a, .int .i64 r.b] 50)).cell? ⟨g, 0, none⟩ = some (.int .i64 j) := (B0.out.cell (p := ⟨g, 0, none⟩) hg).trans hj
  have E : (!longB j r) = decide (r.b - r.a ≤ j) := by
    unfold longB
    rw [Bool.eq_iff_iff]
    simp
  rw [E]
  clear E hj
  obtain ⟨a, b⟩ := r
  simp only at *
  go_enter Try.func28, Try.ntmps28
  go_wp2
  go_ret
  exact ⟨rfl, B0.out⟩
/-- Where the first run is that is not long. -/
def IdxEnd (R : List Ru) (j : Int) (w : World) (e : Ending) (w' : World) : Prop :=
  ∃ i : Int, e = .returned (.int .i64 i) ∧ Below w.heap.size w w' ∧ ((i = -1 ∧ ∀ r ∈ R, longB j r = true) ∨ ∃ k : Nat, i = (k : Int) ∧ k < R.length ∧ (∀ r ∈ R.take k, longB j r = true) ∧ ∀ r, R[k]? = some r → longB j r = false)
set_option maxRecDepth 100000 in
set_option maxHeartbeats 4000000 in
theorem pidx_any (q : Option Addr) (n c : Nat) (R : List Ru) (j : Int) (g : Nat) (w : World) (h : Rw 2 ucells w q n R) (hn : n ≤ 1048576) (hj : w.cell? ⟨g, 0, none⟩ = some (.int .i64 j)) (hg : g < w.heap.size) (hR : ∀ r ∈ R, okR r) :
    Calls Try.prog 34 #[.slice q n c, .func (.func 28) #[] #[.pointer (some ⟨g, 0, none⟩)]] w (IdxEnd R j w) := by
  have HH := Lib.hid h
  have HN := Lib.hid h.1
  have HJ := Lib.hid hj
  have HG := Lib.hid hg
  have HR := Lib.hid hR
  clear h hj hg hR
  go_enter Try.func34, Try.ntmps34
  go_wp2
  go_loopw [8] (fun i wr => ∃ k : Nat, k ≤ n ∧ i = .int .i64 k ∧ Hid (∀ r ∈ R.take k, longB j r = true) ∧ Hid (Below w.heap.size w wr)) (fun i _ => n - (intOf i).toNat)
  case atStart => exact ⟨0, Nat.zero_le _, rfl, Lib.hid (fun r hr => by simp at hr), Lib.hid (Below.refl _ _)⟩
  case round =>
    obtain ⟨k, hk, rfl, HT, HB⟩ := hrel
    by_cases hlt : k < n
    · obtain ⟨x, hx⟩ : ∃ x, R[k]? = some x := ⟨_, List.getElem?_eq_getElem (by rw [HN.out]; exact hlt)⟩
      have R2 := HH.out.keep ucells_len HB.out
      obtain ⟨b, o, rfl, hc⟩ := R2.2 (by omega)
      have e0 : wr.cell? ⟨b, o + k * 2, none⟩ = some (.int .i64 x.a) := hc k x hx 0 (by decide)
      have e1 : wr.cell? ⟨b, o + k * 2 + 1, none⟩ = some (.int .i64 x.b) := hc k x hx 1 (by decide)
      have hk3 : (k : Int) < (n : Int) := by omega
      have C := Lib.hid (short_any x j g wr ((HB.out.cell (p := ⟨g, 0, none⟩) HG.out).trans HJ.out) (Nat.lt_of_lt_of_le HG.out HB.out.size) (HR.out x (List.mem_of_getElem? hx)))
      have HX := Lib.hid hx
      clear hc hx R2
      go_wp2_with fail
      refine C.out.mono ?_
      rintro e w2 ⟨rfl, hb2⟩
      have B2 := Lib.hid (HB.out.trans (hb2.mono HB.out.size))
      clear hb2
      rcases hl : longB j x with _ | _
      · have HL := Lib.hid hl
        clear hl
        go_wp2
        go_ret
        refine ⟨(k : Int), rfl, B2.out, .inr ⟨k, rfl, by rw [HN.out]; exact hlt, HT.out, fun r hr => ?_⟩⟩
        rw [HX.out] at hr
        rw [← Option.some.inj hr]
        exact HL.out
      · have HT2 : Hid (∀ r ∈ R.take (k + 1), longB j r = true) := Lib.hid (by
          intro r hr
          rw [List.take_add_one, HX.out] at hr
          rcases List.mem_append.1 hr with hr | hr
          · exact HT.out r hr
          · rw [List.mem_singleton.1 hr]
            exact hl)
        clear hl
        go_wp2
        go_roundw
        case rel => exact ⟨k + 1, by omega, by go_num, HT2, B2⟩
        case measure => simp [intOf]; omega
    · obtain rfl : k = n := by omega
      go_wp2
      go_ret
      refine ⟨-1, rfl, HB.out, .inl ⟨rfl, fun r hr => HT.out r ?_⟩⟩
      rw [List.take_of_length_le (by rw [HN.out]; exact Nat.le_refl _)]
      exact hr
end Dr
/-- clear, of things of any size in cells, in a block that is known whole. -/
theorem run_clear_lies {P : Program} (w : World) (sT ty elem : TypeId) (z : Value) (g o n c : Nat) (cur : Array Value) (t : TypeId) (hn : 0 < n)
    (hu : P.underlying sT = some (.slice elem)) (hv : ∀ w, (zeroValue elem).run P w = .ok z w) (hg : Lies w g t cur) (hfit : o + n * z.cells.size ≤ cur.size) (h1 : ∀ v ∈ (Builtin.zeroCells z.cells n).toList, v.oneCell' = true) :
    (Builtin.clear_ #[sT] ty #[.slice (some ⟨g, o, none⟩) n c]).run P w = .ok (.tuple #[]) (w.setRow g (spl cur o (Builtin.zeroCells z.cells n).toList)) := by
  have hst := run_storeCells_at P g o t (Builtin.zeroCells z.cells n).toList 0 cur w hg (by rw [zero_len]; simpa using hfit) h1
  simp only [Nat.add_zero] at hst
  obtain ⟨m, rfl⟩ : ∃ m, n = m + 1 := ⟨n - 1, by omega⟩
  simp [Builtin.clear_, run_underlying hu, hv, hst, spl]
end Go.Proofs.Ytfdakkghikimcaa
