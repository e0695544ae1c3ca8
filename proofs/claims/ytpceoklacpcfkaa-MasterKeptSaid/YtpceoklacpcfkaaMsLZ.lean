/- Walks over package master's table of Zones: all, in order. No condition but those written. -/
import Derived.Test.YtpceoklacpcfkaaMsAZ
import Derived.Test.YtpceoklacpcfkaaMsIt
namespace Go.Proofs.Ytpceoklacpcfkaa
open Go.RowKit Go.Maps

namespace Ms
theorem tlook1Z {w : World} {B : Nat} {mo : Option Nat} {S : List Zn} (ht : Tab Zf Zn.id w B mo S) {m : Int} (hm : In64 m) (W : World) (hW : Below w.heap.size w W) :
    (Instr.lookup 47 (.map mo) (.int .i64 m) false).run Try.prog W = .ok (zval ((findK Zn.id m S).getD zn0)) W := by
  rcases ht with ⟨rfl, rfl⟩ | ⟨b, D, rfl, _, hown, hM⟩
  · rw [Maps.look_nil false lawI Try.underlying47 (zeroZ W) (key_of hm)]
    rfl
  · exact look1 Try.underlying47 zn0 zeroZ hown hM hm W (hW.block b hown.lt)
set_option maxRecDepth 100000 in
set_option maxHeartbeats 4000000 in
/-- All, in order. -/
theorem tallZ (B h : Nat) (mz mp : Option Nat) (S : List Zn) (w : World) (hl : Lies w h 54 #[.map mz, .map mp]) (ht : Tab Zf Zn.id w B mz S) (hS : Ord Zn.id S) (hL : S.length ≤ 1000) (h64 : ∀ x ∈ S, In64 x.id) :
    Calls Try.prog 27 #[.pointer (some ⟨h, 0, none⟩)] w fun e w' =>
      ∃ v, e = .returned v ∧ w'.ownsRow w.heap.size 33 6 v S.length (S.flatMap zcells) ∧ Below w.heap.size w w' := by
  obtain ⟨i0, hi, hz0, hz1, hz2⟩ := info_parts infoTZ
  have HT := Lib.hid ht
  have HS := Lib.hid hS
  have HL := Lib.hid hl
  have H6 := Lib.hid h64
  have C1 := Lib.hid (keysZ_any mz w)
  have C2 := Lib.hid (sortedZ_any ht hS hL)
  have l0 : w.cell? ⟨h, 0, none⟩ = some (.map mz) := hl.cell 0
  have HW : Hid (w.heap.size ≤ (w.alloc (.cells #[.map mz] 47)).heap.size) := Lib.hid (by simp)
  have BW : Hid (Below w.heap.size w (w.alloc (.cells #[.map mz] 47))) := Lib.hid (alloc_below w _)
  clear hl ht hS h64
  go_enter Try.func27, Try.ntmps27
  go_wp2_with fail
  refine C1.out.mono ?_
  rintro e w1 ⟨rfl, hw1⟩
  rw [← hw1] at C2 HW BW
  clear hw1 l0
  go_wp2_with fail
  refine C2.out.mono ?_
  intro e w2 he
  obtain ⟨v, rfl, ho, hb2⟩ := he
  obtain ⟨q, c, rfl⟩ := own_slice ho
  have KO := Lib.hid ho
  have B2 := Lib.hid (BW.out.trans (hb2.mono HW.out))
  have H2 : Hid (w.heap.size ≤ w2.heap.size) := Lib.hid (Nat.le_trans HW.out hb2.size)
  clear ho hb2 C1 C2 BW
  obtain ⟨N, hN⟩ : ∃ N, S.length = N := ⟨_, rfl⟩
  rw [hN] at KO hL ⊢
  have HN := Lib.hid hN
  clear hN
  have hL' : (N : Int) ≤ 1000 := by omega
  go_wp2_with fail
  go_loopw [3, 13] (fun v i wr => ∃ k : Nat, k ≤ N ∧ i = .int .i64 k ∧ (∃ q d, v = .slice q k d) ∧ Hid (wr.ownsRow w2.heap.size 33 6 v k ((S.take k).flatMap zcells)) ∧ Hid (Below w2.heap.size w2 wr)) (fun _ i _ => N - (RowKit.intOf i).toNat)
  case atStart => exact ⟨0, Nat.zero_le _, rfl, ⟨none, 0, rfl⟩, Lib.hid (World.ownsRow_nil _ _ _ _), Lib.hid (Below.refl _ _)⟩
  case round =>
    obtain ⟨k, hk, rfl, ⟨q2, d2, rfl⟩, RO, BR⟩ := hrel
    have BA := Lib.hid (B2.out.trans (BR.out.mono H2.out))
    by_cases hlt : k < N
    · have hk3 : (k : Int) < (N : Int) := by omega
      obtain ⟨x, hx⟩ : ∃ x, S[k]? = some x := ⟨_, List.getElem?_eq_getElem (by rw [HN.out]; exact hlt)⟩
      obtain ⟨b, c2, e, hb1, hb2, _⟩ := own_some KO.out (by omega)
      cases e
      have hmem := List.mem_of_getElem? hx
      have d0 : w2.cell? ⟨b, k, none⟩ = some (.int .i64 x.id) := by
        have := row_cell (kcells_len Zn.id) KO.out HN.out hx (i := 0) (by decide)
        simpa [kcells] using this
      have e0 : wr.cell? ⟨b, k, none⟩ = some (.int .i64 x.id) := (BR.out.cell (p := ⟨b, k, none⟩) hb2).trans d0
      have l0 : wr.cell? ⟨h, 0, none⟩ = some (.map mz) := (HL.out.below BA.out HL.out.lt).cell 0
      have kk := tlook1Z HT.out (H6.out x hmem) wr BA.out
      rw [find_mem HS.out hmem] at kk
      have TK := Lib.hid (take_one hx)
      clear hx hmem d0 hb1 hb2
      obtain ⟨a, b, c, d, e, f⟩ := x
      simp only [Option.getD_some, zval] at kk e0
      have hsz := BR.out.size
      go_wp2_with (at_builtin; refine wpList_append_own _ rfl _ _ 22 rfl w2.heap.size 33 i0 _ 6 48 Try.underlying22 hi hz0 hz1 hz2 rfl (by decide) _ _ _ rfl (RO.out.alloc _) ⟨wr.heap.size, 0, none⟩ 1 1 [.int .i64 a, .int .i64 b, .int .i64 c, .int .i64 d, .bool e, .int .i64 f] rfl rfl (World.news_of_block (cs := #[.int .i64 a, .int .i64 b, .int .i64 c, .int .i64 d, .bool e, .int .i64 f]) (t := 33) (fr := (0, 0)) (heap_alloc_new wr _)) (by simp [Value.oneCell']) (by unfold maxLen; omega) (by omega) (by simp; omega) ?_; intro v3 w3 hown3 hg3 _; have B3 := Lib.hid ((BR.out.alloc hsz (.cells #[.int .i64 a, .int .i64 b, .int .i64 c, .int .i64 d, .bool e, .int .i64 f] 33)).grown hg3 (Nat.le_trans hsz (size_alloc _ _)) (fun i hi => (own_lt RO.out hi).1)))
      obtain ⟨q3, d3, rfl⟩ := own_slice hown3
      have O3 := Lib.hid hown3
      clear hown3 hg3 kk e0 l0
      go_roundw
      case rel => exact ⟨k + 1, by omega, by go_num, ⟨_, _, rfl⟩, Lib.hid (by
        rw [TK.out, ← flat_snoc]
        exact O3.out), B3⟩
      case measure => simp [RowKit.intOf]; omega
    · obtain rfl : k = N := by omega
      go_wp2
      go_ret
      refine ⟨.slice q2 k d2, rfl, ?_, BA.out⟩
      have := RO.out
      rw [List.take_of_length_le (by rw [HN.out]; exact Nat.le_refl _)] at this
      rw [HN.out]
      exact own_floor this H2.out
end Ms
end Go.Proofs.Ytpceoklacpcfkaa
