/- Things that came in read as a list of things. -/
import Derived.Test.YtakkkdmbghdhgaaW10
import Derived.Test.YtakkkdmbghdhgaaOpen
namespace Go.Proofs.Ytakkkdmbghdhgaa
open Go.RowKit Go.ChangeShapes Go.WideShapes

theorem list_of {α : Type} (d : α) (Q : Nat → α → Prop) (n : Nat) (h : ∀ i, i < n → ∃ t, Q i t) : ∃ l : List α, l.length = n ∧ ∀ i, i < n → Q i (l.getD i d) := by
  induction n with
  | zero => exact ⟨[], rfl, fun i hi => by omega⟩
  | succ n ih =>
    obtain ⟨l, hl, hq⟩ := ih (fun i hi => h i (by omega))
    obtain ⟨t, ht⟩ := h n (by omega)
    refine ⟨l ++ [t], by simp [hl], fun i hi => ?_⟩
    by_cases hin : i < n
    · have := hq i hin
      rw [List.getD_eq_getElem?_getD] at this ⊢
      rwa [List.getElem?_append_left (by omega)]
    · obtain rfl : i = n := by omega
      rw [List.getD_eq_getElem?_getD, List.getElem?_append_right (by omega), hl, Nat.sub_self]
      exact ht
theorem nat_u64 {n : Int} (h : (Lit.int .u64 n).wf = true) : 0 ≤ n ∧ n < 18446744073709551616 := by
  have h1 := (Lit.wf_int_iff .u64 n).1 h
  have e1 : IntKind.u64.min = 0 := by decide
  have e2 : IntKind.u64.max = 18446744073709551615 := by decide
  rw [e1, e2] at h1
  omega
theorem run_of {H : Type} {enc : TypeId × Value → H} {w : World} {base : Nat} {spare : Nat → Bool} {held : Bool} {fuel : Nat} {v : Value} {y : DataW H × List MemPlace}
    (h : DataW.trod enc Try.prog w base spare held fuel 28 [v] = some y) : ∃ q n c l, v = .slice q n c ∧ n ≤ c ∧ n ≤ 9223372036854775807 ∧ At w q n l := by
  rcases open_ints Try.underlying28 Try.underlying5 (by kernel_rfl) h with ⟨hcs, _⟩ | ⟨a, len, cap, zs, hcs, _, hl, hm, hz, _, hcell, hwz⟩
  · injection hcs with hcs
    exact ⟨none, 0, 0, [], hcs, Nat.le_refl _, Nat.zero_le _, at_nil w⟩
  · injection hcs with hcs
    have hlz : len ≤ zs.length := by
      rw [hz]
      split <;> omega
    obtain ⟨bk, off, spot⟩ := a
    unfold maxLen at hm
    refine ⟨some ⟨bk, off, spot⟩, len, cap, (zs.map Int.toNat).take len, hcs, hl, by omega, by rw [List.length_take, List.length_map]; omega, ?_, fun h0 => ?_⟩
    · intro x hx
      obtain ⟨z, hz', rfl⟩ := List.mem_map.1 (List.mem_of_mem_take hx)
      have := nat_byte (hwz z hz')
      omega
    · have hc0 := hcell 0 (by omega)
      have hspot : spot = none := by simpa [Addr.add] using World.cell?_spot hc0
      subst hspot
      refine ⟨bk, off, rfl, fun j hj => ?_⟩
      have hj' : j < zs.length := by omega
      have hc := hcell j hj'
      rw [add_none] at hc
      rw [hc, List.getD_eq_getElem?_getD, List.getD_eq_getElem?_getD, List.getElem?_take_of_lt hj, List.getElem?_map, List.getElem?_eq_getElem hj']
      have hb := nat_byte (hwz _ (List.getElem_mem hj'))
      simp only [Option.getD_some, Option.map_some]
      rw [Int.toNat_of_nonneg hb.1]
/-- Things that came in. -/
theorem ths_of {H : Type} {enc : TypeId × Value → H} {w : World} {base : Nat} {spare : Nat → Bool} {held : Bool} {fuel : Nat} {p : Option Addr} {len cap : Nat} {y : DataW H × List MemPlace}
    (h : DataW.trod enc Try.prog w base spare held fuel 22 [.slice p len cap] = some y) : len ≤ cap ∧ len ≤ 9223372036854775807 ∧ ∃ l, Ths w p len l := by
  rcases open_parts Try.underlying22 Try.underlying34 (m := 4) (by kernel_rfl) h with h0 | ⟨a, n, c, hcs, hl, hm, hp⟩
  · simp only [List.cons.injEq, and_true, Value.slice.injEq] at h0
    obtain ⟨rfl, rfl, rfl⟩ := h0
    exact ⟨Nat.le_refl _, Nat.zero_le _, [], rfl, fun h0 => absurd h0 (by decide)⟩
  · simp only [List.cons.injEq, and_true, Value.slice.injEq] at hcs
    obtain ⟨rfl, rfl, rfl⟩ := hcs
    unfold maxLen at hm
    refine ⟨hl, by omega, ?_⟩
    obtain ⟨b, o, spot⟩ := a
    have hs : 0 < len → spot = none := by
      intro h0
      obtain ⟨part, n, hlen, hc, _⟩ := hp 0 h0
      match part, hlen with
      | [v0, v1, v2, v3], _ =>
        have k0 := hc 0 (by decide)
        simpa [Addr.add] using World.cell?_spot k0
    by_cases h0 : 0 < len
    case neg =>
      obtain rfl : len = 0 := by omega
      exact ⟨[], rfl, fun h1 => absurd h1 h0⟩
    obtain rfl := hs h0
    have key : ∀ i, i < len → ∃ t, Thg w b (o + i * 4) t := by
      intro i hi
      obtain ⟨part, n, hlen, hc, hf⟩ := hp i hi
      match part, hlen with
      | [v0, v1, v2, v3], _ =>
        obtain ⟨y0, f0⟩ := hf 0 _ rfl
        change DataW.trod enc Try.prog w base spare held n 5 (List.take (Try.prog.cellsOf 5) (List.drop 0 [v0, v1, v2, v3])) = some y0 at f0
        obtain ⟨y1, f1⟩ := hf 1 _ rfl
        change DataW.trod enc Try.prog w base spare held n 32 (List.take (Try.prog.cellsOf 32) (List.drop 1 [v0, v1, v2, v3])) = some y1 at f1
        obtain ⟨y2, f2⟩ := hf 2 _ rfl
        change DataW.trod enc Try.prog w base spare held n 3 (List.take (Try.prog.cellsOf 3) (List.drop 2 [v0, v1, v2, v3])) = some y2 at f2
        obtain ⟨y3, f3⟩ := hf 3 _ rfl
        change DataW.trod enc Try.prog w base spare held n 28 (List.take (Try.prog.cellsOf 28) (List.drop 3 [v0, v1, v2, v3])) = some y3 at f3
        rw [show Try.prog.cellsOf 5 = 1 by kernel_rfl] at f0
        rw [show Try.prog.cellsOf 32 = 1 by kernel_rfl] at f1
        rw [show Try.prog.cellsOf 3 = 1 by kernel_rfl] at f2
        rw [show Try.prog.cellsOf 28 = 1 by kernel_rfl] at f3
        obtain ⟨n0, e0, _, w0⟩ := DataW.trod_int Try.underlying5 f0
        obtain ⟨n1, e1, _, w1⟩ := DataW.trod_int Try.underlying32 f1
        obtain ⟨n2, e2, _, _⟩ := DataW.trod_int Try.underlying3 f2
        simp only [List.drop_zero, List.drop_succ_cons, List.take_succ_cons, List.take_zero, List.cons.injEq, and_true] at e0 e1 e2 f3
        obtain ⟨q, m, d, l, e3, g1, g2, hA⟩ := run_of f3
        subst e0 e1 e2 e3
        have k0 := hc 0 (by decide)
        have k1 := hc 1 (by decide)
        have k2 := hc 2 (by decide)
        have k3 := hc 3 (by decide)
        rw [add_none] at k0 k1 k2 k3
        have b0 := nat_byte w0
        have b1 := nat_u64 w1
        have hlm := hA.1
        subst hlm
        refine ⟨⟨n0.toNat, n1.toNat, n2, l⟩, ?_, ?_, ?_, ⟨q, d, ?_, g1, hA⟩, ?_, ?_, g2⟩
        · rw [Nat.add_zero] at k0
          simpa [Int.toNat_of_nonneg b0.1] using k0
        · simpa [Int.toNat_of_nonneg b1.1, Nat.add_assoc] using k1
        · simpa [Nat.add_assoc] using k2
        · simpa [Nat.add_assoc] using k3
        · show n0.toNat < 256
          omega
        · show n1.toNat < 18446744073709551616
          omega
    obtain ⟨l, h1, h2⟩ := list_of Oc.t0 (fun i t => Thg w b (o + i * 4) t) len key
    exact ⟨l, h1, fun _ => ⟨b, o, rfl, h2⟩⟩
end Go.Proofs.Ytakkkdmbghdhgaa
