/- Walks over the document's answer of layer 15: the order. No condition but those written. -/
import Derived.Test.YtclpdemhfbjliaaFf1
import Derived.Deep.CutRange
import Derived.Deep.OwnRows
import Derived.WalkSpells
namespace Go.Proofs.Ytclpdemhfbjliaa
open Go.RowKit Lo

namespace Ff
def ncells (x : Int) : List Value := [.int .i64 x]
theorem ncells_len (x : Int) : (ncells x).length = 1 := rfl
theorem infoB : (Try.prog.info? 4).map (fun i => (i.zero, i.size, i.bytes)) = some (some (.bool false), 1, 1) := by kernel_rfl
theorem infoN : (Try.prog.info? 3).map (fun i => (i.zero, i.size, i.bytes)) = some (some (.int .i64 0), 1, 8) := by kernel_rfl
/-- How long a slice is. -/
def lenOf : Value → Nat
  | .slice _ n _ => n
  | _ => 0
theorem made_bools : ∀ n : Nat, (madeCells #[.bool false] n).toList = (List.replicate n false).flatMap bcells
  | n => by
    have h : ∀ m : Nat, (List.replicate m false).flatMap bcells = List.replicate m (.bool false) := by
      intro m
      induction m with
      | zero => rfl
      | succ m ih =>
        rw [List.replicate_succ, List.flatMap_cons, ih]
        rfl
    rw [h]
    simp only [madeCells, List.size_toArray, List.length_singleton]
    refine List.eq_replicate_iff.2 ⟨by simp, fun x hx => ?_⟩
    simp at hx
    obtain ⟨j, _, hj⟩ := hx
    rw [Nat.mod_one] at hj
    exact hj.symm
/-- None is taken. -/
theorem made_own (w : World) (n : Nat) (hn : n ≤ 1000000) : (w.alloc (.cells (madeCells #[.bool false] n) 4)).ownsRow w.heap.size 4 1 (.slice (some ⟨w.heap.size, 0, none⟩) n n) n ((List.replicate n false).flatMap bcells) := by
  have h := World.ownsRow_lit (base := w.heap.size) (e := 4) (size := 1) w (madeCells #[.bool false] n) n (Nat.le_refl _) (by unfold maxLen; omega) (by rw [size_madeCells, Nat.mul_one])
  rwa [made_bools] at h
/-- How far the order has come. -/
structure Ord (l : List Lt) (tk : List Bool) (k : Nat) : Prop where
  len : tk.length = l.length
  le : k ≤ l.length
  left : isort (rem l tk) = (isort l).drop k
theorem ord_start (l : List Lt) : Ord l (List.replicate l.length false) 0 := ⟨by simp, Nat.zero_le _, by rw [rem_false, List.drop_zero]⟩
/-- One more. -/
theorem ord_next {l : List Lt} {tk : List Bool} {k : Nat} {b : Int} (h : Ord l tk k) (hk : k < l.length) (hu : Upto l tk l.length b) : ∃ (i : Nat) (x : Lt), b = (i : Nat) ∧ i < l.length ∧ l[i]? = some x ∧ Ord l (tk.set i true) (k + 1) ∧ (isort l)[k]? = some x := by
  rcases upto_place hu with rfl | ⟨i, x, rfl, hi, hx⟩
  · exfalso
    have h1 := upto_none hu
    have h2 := h.left
    rw [h1] at h2
    have h3 := congrArg List.length h2
    simp only [List.length_drop, isort_len, List.length_nil] at h3
    omega
  · have hb := best_take h.len.symm (upto_best hu hx)
    rw [h.left] at hb
    have h4 : (isort l)[k]? = some x := by
      have := congrArg (fun s => s[0]?) hb
      simpa [List.getElem?_drop] using this
    refine ⟨i, x, rfl, hi, hx, ⟨by rw [List.length_set]; exact h.len, hk, ?_⟩, h4⟩
    have := congrArg List.tail hb
    rw [List.tail_cons, List.tail_drop] at this
    exact this.symm
theorem take_id {l : List Lt} {k : Nat} {x : Lt} (h : l[k]? = some x) : (l.take (k + 1)).map Lt.id = (l.take k).map Lt.id ++ [x.id] := by
  rw [List.take_add_one, h, List.map_append]
  rfl
theorem own_floor {w : World} {B B' : Nat} {e : TypeId} {k n : Nat} {v : Value} {xs : List Value} (h : w.ownsRow B e k v n xs) (hB : B' ≤ B) : w.ownsRow B' e k v n xs := by
  obtain ⟨h1, h2⟩ := h
  refine ⟨h1, h2.imp id (fun h => ?_)⟩
  obtain ⟨g, cap, cur, e1, e2, e3⟩ := h
  exact ⟨g, cap, cur, e1, Nat.le_trans hB e2, e3⟩
def OrderEnd (w : World) (l : List Lt) (e : Ending) (w' : World) : Prop := ∃ v, e = .returned v ∧ w'.ownsRow w.heap.size 3 1 v l.length (((isort l).map Lt.id).flatMap ncells) ∧ Below w.heap.size w w'
set_option maxRecDepth 100000 in
set_option maxHeartbeats 8000000 in
theorem r15order_any (p : Option Addr) (n c : Nat) (L : List Lv) (w : World) (hA : Rw 8 lcells w p n L) (hn : n ≤ 1000000) :
    Calls Try.prog 7 #[.slice p n c] w (OrderEnd w (lts L)) := by
  obtain ⟨i0, hi, iz0, iz1, iz2⟩ := info_parts infoN
  have hn' : (n : Int) ≤ 1000000 := by omega
  have HA := Lib.hid hA
  have HN := Lib.hid hA.1
  have HS := Lib.hid (show (lts L).length = n by unfold lts; rw [List.length_map]; exact hA.1)
  have hmk := run_make_row' (P := Try.prog) 43 4 (.bool false) 1 Try.underlying43 infoB rfl .i64 .i64 n (by omega) (by omega) w
  have O0 := Lib.hid (made_own w n hn)
  have Q0 := Lib.hid (ord_start (lts L))
  rw [HS.out] at Q0
  have B0 := Lib.hid (alloc_below w (.cells (madeCells #[.bool false] n) 4))
  have Z0 := Lib.hid (show w.heap.size + 1 ≤ (w.alloc (.cells (madeCells #[.bool false] n) 4)).heap.size by simp)
  clear hA
  go_enter Try.func7, Try.ntmps7
  go_wp2_with fail
  generalize w.alloc (.cells (madeCells #[.bool false] n) 4) = w0 at *
  clear hmk
  go_loopw [4, 5] (fun v _ wr => ∃ (k : Nat) (tk : List Bool) (q : Option Addr) (d : Nat), k ≤ n ∧ v = .slice q k d ∧ Hid (Ord (lts L) tk k) ∧ Hid (wr.ownsRow w.heap.size 4 1 (.slice (some ⟨w.heap.size, 0, none⟩) n n) n (tk.flatMap bcells)) ∧ Hid (wr.ownsRow (w.heap.size + 1) 3 1 (.slice q k d) k ((((isort (lts L)).take k).map Lt.id).flatMap ncells)) ∧ Hid (Below w.heap.size w wr) ∧ Hid (w.heap.size + 1 ≤ wr.heap.size)) (fun v _ _ => n - lenOf v)
  case atStart => exact ⟨0, _, none, 0, Nat.zero_le _, rfl, Q0, O0, Lib.hid (World.ownsRow_nil _ _ _ _), B0, Z0⟩
  case round =>
    clear Q0 O0 B0 Z0
    obtain ⟨k, tk, q, d, hk, rfl, QK, OT, OV, BR, ZR⟩ := hrel
    by_cases hlt : k < n
    · have hk3 : (k : Int) < (n : Int) := by omega
      have F := Lib.hid (first_any p (some ⟨w.heap.size, 0, none⟩) n c n w.heap.size L tk wr (HA.out.keep lcells_len BR.out) OT.out (QK.out.len.trans HS.out) hn)
      go_wp2_with fail
      refine F.out.mono ?_
      intro e w2 he
      obtain ⟨b, rfl, hu, hb2⟩ := he
      obtain ⟨i, x, rfl, hil, hx, hq, hx2⟩ := ord_next QK.out (by rw [HS.out]; exact hlt) hu
      rw [HS.out] at hil
      have hi3 : (i : Int) < (n : Int) := by omega
      have B2 := Lib.hid (BR.out.trans (hb2.mono BR.out.size))
      have Z2 := Lib.hid (Nat.le_trans ZR.out hb2.size)
      have OT2 := Lib.hid (own_turn OT.out (Turn.of_below (S := fun _ => False) hb2) (fun _ _ hf => hf))
      have OV2 := Lib.hid (own_turn OV.out (Turn.of_below (S := fun _ => False) hb2) (fun _ _ hf => hf))
      have Q2 := Lib.hid hq
      have TI := Lib.hid (take_id hx2)
      obtain ⟨y, hy⟩ : ∃ y, L[i]? = some y := ⟨_, List.getElem?_eq_getElem (by rw [HN.out]; exact hil)⟩
      obtain rfl : x = y.x := by
        have h1 := lts_at hy
        rw [hx] at h1
        exact Option.some.inj h1
      have HY := Lib.hid hy
      obtain ⟨t, ht⟩ : ∃ t, tk[i]? = some t := ⟨_, List.getElem?_eq_getElem (by rw [QK.out.len, HS.out]; exact hil)⟩
      obtain ⟨g, hg, _, _, c0⟩ := tk_at OT2.out (QK.out.len.trans HS.out) ht
      obtain rfl : w.heap.size = g := by
        have := Option.some.inj hg
        injection this
      have f0 : w2.frozen? ⟨w.heap.size, i, none⟩ = false := OT2.out.frozenAt i
      have ST := Lib.hid (row_store bcells_len OT2.out ht (i := 0) (by decide) (u := .bool true) (x' := true) rfl)
      rw [Nat.mul_one, Nat.add_zero] at ST
      clear hu hb2 hq hx hx2 hy ht hg F QK OT OV BR ZR
      go_upto_region 6 with fail
      have TS := Lib.hid ((Turn.refl (fun k => k = w.heap.size) w2).setCell (p := ⟨w.heap.size, i, none⟩) (.inl rfl) (.bool true))
      have OV3 := Lib.hid (own_turn OV2.out TS.out (fun b hb e => by have := own_lt OV2.out hb; omega))
      have B3 := Lib.hid (B2.out.setCell (p := ⟨w.heap.size, i, none⟩) (Nat.le_refl _) (.bool true))
      have Z3 := Lib.hid (Nat.le_trans Z2.out TS.out.size)
      clear c0 f0 OT2 OV2 B2 Z2 TS
      generalize w2.setCell ⟨w.heap.size, i, none⟩ (.bool true) = w3 at *
      obtain ⟨b, o, rfl, e0, j1, j2, j3⟩ := lv_at (HA.out.keep lcells_len B3.out) HY.out
      clear j1 j2 j3 HY
      have hsz := Z3.out
      generalize y.x.id = yi at *
      go_wp2_with (at_builtin; refine wpList_append_own _ rfl _ _ 24 rfl (w.heap.size + 1) 3 i0 _ 1 8 Try.underlying24 hi iz0 iz1 iz2 rfl (by decide) _ _ _ rfl (OV3.out.alloc _) ⟨w3.heap.size, 0, none⟩ 1 1 [.int .i64 yi] rfl rfl (World.news_of_block (cs := #[.int .i64 yi]) (t := 3) (fr := (0, 0)) (heap_alloc_new w3 _)) (by simp [Value.oneCell']) (by unfold maxLen; omega) (by omega) (by simp; omega) ?_; intro v4 w4 hown4 hg4 _; have T4 := Lib.hid (((Turn.refl (fun b => (Value.slice q k d).ownBlock = some b) w3).alloc (.cells #[.int .i64 yi] 3)).grown hg4 (fun b hb => .inl hb)))
      obtain ⟨q4, d4, rfl⟩ := own_slice hown4
      have O4 := Lib.hid hown4
      have OT4 := Lib.hid (own_turn ST.out T4.out (fun b hb hf => by
        have h1 := own_lt OV3.out hf
        have h2 : w.heap.size = b := Option.some.inj hb
        omega))
      have B4 := Lib.hid (T4.out.below B3.out B3.out.size (fun b hb => by have := own_lt OV3.out hb; omega))
      have Z4 := Lib.hid (Nat.le_trans Z3.out T4.out.size)
      clear hown4 hg4 e0 hsz T4
      go_roundw
      case rel => exact ⟨k + 1, _, _, _, by omega, rfl, Q2, OT4, Lib.hid (by
        rw [TI.out, ← flat_snoc]
        exact O4.out), B4, Z4⟩
      case measure => simp [lenOf]; omega
    · obtain rfl : k = n := by omega
      go_wp2
      go_ret
      refine ⟨.slice q k d, rfl, ?_, BR.out⟩
      have := OV.out
      rw [List.take_of_length_le (by rw [isort_len, HS.out]; exact Nat.le_refl _)] at this
      rw [HS.out]
      exact own_floor this (Nat.le_succ _)
end Ff
end Go.Proofs.Ytclpdemhfbjliaa
