/- Walks over the document's answer of layer 8: the alarms. No condition but those written. -/
import Derived.Test.YtfdakkghikimcaaDr4
namespace Go.Proofs.Ytfdakkghikimcaa
open Go.RowKit

namespace Dr
open Se
theorem filt_next {R : List Ru} {k : Nat} {x : Ru} (q : Ru → Bool) (hx : R[k]? = some x) : (R.take (k + 1)).filter q = if q x then (R.take k).filter q ++ [x] else (R.take k).filter q := by
  rw [List.take_add_one, hx, Option.toList_some, List.filter_append]
  cases h : q x <;> simp [h]
theorem filt_few {R : List Ru} (q : Ru → Bool) (k : Nat) : ((R.take k).filter q).length ≤ k :=
  Nat.le_trans (List.length_filter_le _ _) (by simp; omega)
theorem own_base {w : World} {B B' : Nat} {e : TypeId} {k n : Nat} {v : Value} {xs : List Value} (h : w.ownsRow B e k v n xs) (hB : B' ≤ B) : w.ownsRow B' e k v n xs := by
  refine ⟨h.1, ?_⟩
  rcases h.2 with h0 | ⟨g, cap, cur, h1, hb, h2⟩
  · exact .inl h0
  · exact .inr ⟨g, cap, cur, h1, Nat.le_trans hB hb, h2⟩
theorem own_drewN {w : World} {B : Nat} {e : TypeId} {k n : Nat} {v : Value} {xs : List Value} (h : w.ownsRow B e k v n xs) (m : Nat) : (w.drewN m).ownsRow B e k v n xs :=
  own_turn h (turn_drewN w (fun _ => False) m) (fun _ _ hf => hf)
set_option maxRecDepth 100000 in
set_option maxHeartbeats 4000000 in
theorem dalarms_any (p : Option Addr) (n c : Nat) (l : List Rd) (j now : Int) (w : World) (hn : n ≤ 1000000) (h : Rw 3 mcells w p n l) :
    Calls Try.prog 16 #[.slice p n c, .int .i64 j, .int .i64 now] w fun e w' => ∃ v R, e = .returned v ∧ RunsOf (opnF l) (min now 1048576) R ∧ R.length ≤ 1048576 ∧ w'.ownsRow w.heap.size 50 2 v (R.filter (longB j)).length ((R.filter (longB j)).flatMap ucells) ∧ Below w.heap.size w w' := by
  have C := Lib.hid (druns_any p n c l now w hn h)
  clear h
  obtain ⟨i0, hi, hz0, hz1, hz2⟩ := info_parts infoU
  go_enter Try.func16, Try.ntmps16
  go_wp2_with fail
  refine C.out.mono ?_
  clear C
  rintro e w1 ⟨v, R, rfl, hR, hlen, hown, hbel⟩
  have HR := Lib.hid hR
  have HB := Lib.hid hbel
  have HO := Lib.hid hown
  obtain ⟨q0, d0, rfl⟩ := own_slice hown
  clear hR hbel hown
  go_wp2_with fail
  go_loopw [8, 9] (fun v i wr => ∃ k f : Nat, k ≤ R.length ∧ i = .int .i64 k ∧ (∃ q d, v = .slice q f d) ∧ Hid (((R.take k).filter (longB j)).length = f) ∧ Hid (wr.ownsRow w1.heap.size 50 2 v f (((R.take k).filter (longB j)).flatMap ucells)) ∧ Hid (Below w1.heap.size w1 wr)) (fun _ i _ => R.length - (intOf i).toNat)
  case atStart => exact ⟨0, 0, Nat.zero_le _, rfl, ⟨none, 0, rfl⟩, Lib.hid (by simp), Lib.hid (World.ownsRow_nil _ _ _ _), Lib.hid (Below.refl _ _)⟩
  case round =>
    obtain ⟨k, f, hk, rfl, ⟨q, d, rfl⟩, HF, HV, HW⟩ := hrel
    have hf : f ≤ k := HF.out ▸ filt_few (longB j) k
    by_cases hlt : k < R.length
    · obtain ⟨x, hx⟩ : ∃ x, R[k]? = some x := ⟨_, List.getElem?_eq_getElem hlt⟩
      have hr := HR.out.each x (List.mem_of_getElem? hx)
      have OW := own_turn HO.out (Turn.of_below (S := fun _ => False) HW.out) (fun _ _ hf => hf)
      obtain ⟨b, d', e, hBb, hbl, hnc⟩ := own_some OW (by omega)
      cases e
      have e0 : wr.cell? ⟨b, k * 2, none⟩ = some (.int .i64 x.a) := row_cell ucells_len OW rfl hx (i := 0) (by decide)
      have e1 : wr.cell? ⟨b, k * 2 + 1, none⟩ = some (.int .i64 x.b) := row_cell ucells_len OW rfl hx (i := 1) (by decide)
      have hk3 : (k : Int) < (R.length : Int) := by omega
      have HN := Lib.hid (filt_next (longB j) hx)
      have r0 : 0 ≤ x.a := hr.1
      have r1 : x.a < x.b := hr.2.1
      have r2 : x.b ≤ 1048576 := by
        have := hr.2.2.1
        omega
      have hsz := HW.out.size
      clear hx hr OW
      obtain ⟨xa, xb⟩ := x
      simp only at e0 e1 r0 r1 r2
      by_cases hj : j < xb - xa
      · rw [show longB j ⟨xa, xb⟩ = true from decide_eq_true hj, if_pos rfl] at HN
        have HL2 := Lib.hid (show ((R.take (k + 1)).filter (longB j)).length = f + 1 by rw [HN.out, List.length_append, HF.out]; rfl)
        go_wp2_with fail
        go_quiet (fail)
        go_wp2_with (at_builtin; refine wpList_append_own _ rfl _ _ 37 rfl w1.heap.size 50 i0 _ 2 16 Try.underlying37 hi hz0 hz1 hz2 rfl (by decide) _ _ _ rfl ((own_drewN HV.out _).alloc _) ⟨wr.heap.size, 0, none⟩ 1 1 [.int .i64 xa, .int .i64 xb] rfl rfl (World.news_of_block (cs := #[.int .i64 xa, .int .i64 xb]) (t := 50) (fr := (0, 0)) (heap_alloc_new (wr.drewN _) _)) (by simp [Value.oneCell']) (by unfold maxLen; omega) (by omega) (by simp; omega) ?_; intro v2 w2 hown2 hg2 _)
        obtain ⟨q2, d2, rfl⟩ := own_slice hown2
        have HB2 := Lib.hid (((below_drewN HW.out _).alloc (by simpa using hsz) (.cells #[.int .i64 xa, .int .i64 xb] 50)).grown hg2 (by simp; omega) (fun i hi => (HV.out.lt i hi).1))
        have HO2 := Lib.hid (show w2.ownsRow w1.heap.size 50 2 (.slice q2 (f + 1) d2) (f + 1) (((R.take (k + 1)).filter (longB j)).flatMap ucells) by rw [HN.out, ← flat_snoc]; exact hown2)
        clear hown2 hg2
        go_wp2
        go_roundw
        case rel => exact ⟨k + 1, f + 1, by omega, by go_num, ⟨_, _, rfl⟩, HL2, HO2, HB2⟩
        case measure => simp [intOf]; omega
      · have hj' : xb - xa ≤ j := by omega
        rw [show longB j ⟨xa, xb⟩ = false from decide_eq_false hj, if_neg (by decide)] at HN
        have HL2 := Lib.hid (show ((R.take (k + 1)).filter (longB j)).length = f by rw [HN.out, HF.out])
        go_wp2_with fail
        go_quiet (fail)
        go_wp2
        go_roundw
        case rel => exact ⟨k + 1, f, by omega, by go_num, ⟨_, _, rfl⟩, HL2, Lib.hid (by rw [HN.out]; exact own_drewN HV.out _), Lib.hid (below_drewN HW.out _)⟩
        case measure => simp [intOf]; omega
    · obtain rfl : k = R.length := by omega
      have HT := Lib.hid (show R.take R.length = R from List.take_of_length_le (Nat.le_refl _))
      go_wp2
      go_ret
      refine ⟨_, R, rfl, HR.out, hlen, ?_, HB.out.trans (HW.out.mono HB.out.size)⟩
      have h1 := HV.out
      have h2 := HF.out
      rw [HT.out] at h1 h2
      rw [h2]
      exact own_base h1 HB.out.size
end Dr
end Go.Proofs.Ytfdakkghikimcaa
