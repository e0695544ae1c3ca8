/- Arguments that came in: bytes, whole numbers, how each reads. No condition but those written. -/
import Derived.Test.YtbahilakfgbgpaaDoorMem
import Derived.Test.YtbahilakfgbgpaaDoorOpen
namespace Go.Proofs.YtbahilakfgbgpaaDoor
open Go.RowKit Go.ChangeShapes Go.WideShapes

theorem run_of {H : Type} {enc : TypeId × Value → H} {w : World} {base : Nat} {spare : Nat → Bool} {held : Bool} {fuel : Nat} {v : Value} {y : DataW H × List MemPlace}
    (h : DataW.trod enc Tryd.prog w base spare held fuel 23 [v] = some y) : ∃ q n c l, v = .slice q n c ∧ n ≤ c ∧ n ≤ 9223372036854775807 ∧ At w q n l := by
  rcases open_ints Tryd.underlying23 Tryd.underlying5 (by kernel_rfl) h with ⟨hcs, _⟩ | ⟨a, len, cap, zs, hcs, _, hl, hm, hz, _, hcell, hwz⟩
  · injection hcs with hcs
    exact ⟨none, 0, 0, [], hcs, Nat.le_refl _, Nat.zero_le _, at_nil w⟩
  · injection hcs with hcs
    have hlz : len ≤ zs.length := by
      rw [hz]
      split <;> omega
    obtain ⟨bk, off, spot⟩ := a
    unfold maxLen at hm
    refine ⟨some ⟨bk, off, spot⟩, len, cap, (zs.map Int.toNat).take len, hcs, hl, by omega, by rw [List.length_take, List.length_map]; omega, ?_, fun h0 => ?_⟩
    · intro x hx
      obtain ⟨z, hz', rfl⟩ := List.mem_map.1 (List.mem_of_mem_take hx)
      have := nat_byte (hwz z hz')
      omega
    · have hc0 := hcell 0 (by omega)
      have hspot : spot = none := by simpa [Addr.add] using World.cell?_spot hc0
      subst hspot
      refine ⟨bk, off, rfl, fun j hj => ?_⟩
      have hj' : j < zs.length := by omega
      have hc := hcell j hj'
      rw [add_none] at hc
      rw [hc, List.getD_eq_getElem?_getD, List.getD_eq_getElem?_getD, List.getElem?_take_of_lt hj, List.getElem?_map, List.getElem?_eq_getElem hj']
      have hb := nat_byte (hwz _ (List.getElem_mem hj'))
      simp only [Option.getD_some, Option.map_some]
      rw [Int.toNat_of_nonneg hb.1]
/-- Bytes that came in. -/
structure Bs where
  p : Option Addr
  n : Nat
  c : Nat
def InB (W : World) (v : Value) (x : Bs) : Prop := v = .slice x.p x.n x.c ∧ x.n ≤ x.c ∧ x.n ≤ 9223372036854775807 ∧ ∃ l, At W x.p x.n l
theorem inB_of {H : Type} {enc : TypeId × Value → H} {W : World} {base : Nat} {v : Value} {d : DataW H} {ps : List MemPlace} (hv : Value.okWide Tryd.prog W .any base 23 v) (h : DataW.Trod enc Tryd.prog W 0 (fun _ => true) true 23 v d ps) :
    ∃ x, InB W v x := by
  obtain ⟨a, len, cap, rfl⟩ := okWide_slice Tryd.underlying23 hv
  obtain ⟨fuel, hf⟩ := h
  obtain ⟨q, n, c, l, e, g1, g2, hA⟩ := run_of hf
  exact ⟨⟨q, n, c⟩, e, g1, g2, l, hA⟩
/-- A whole number that came in. -/
def InI (k : IntKind) (v : Value) (x : Int) : Prop := v = .int k x ∧ (Lit.int k x).wf = true
set_option maxRecDepth 100000 in
theorem inI_of {H : Type} {enc : TypeId × Value → H} {W : World} {base : Nat} {v : Value} {d : DataW H} {ps : List MemPlace} {t : TypeId} {k : IntKind} (ht : Tryd.prog.underlying t = some (.int k)) (hv : Value.okWide Tryd.prog W .any base t v)
    (h : DataW.Trod enc Tryd.prog W 0 (fun _ => true) true t v d ps) : ∃ x, InI k v x := by
  obtain ⟨n, rfl⟩ := okWide_int ht hv
  obtain ⟨fuel, hf⟩ := h
  obtain ⟨m, hm, _, hw⟩ := DataW.trod_int ht hf
  simp [Value.cells] at hm
  exact ⟨n, rfl, hm ▸ hw⟩
end Go.Proofs.YtbahilakfgbgpaaDoor
