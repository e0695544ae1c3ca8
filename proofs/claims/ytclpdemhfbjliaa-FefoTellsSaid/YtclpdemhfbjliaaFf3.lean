/- Walks over the document's answer of layer 15: what is picked. Condition: the units asked are a number of 64 bits. -/
import Derived.Test.YtclpdemhfbjliaaFf2
namespace Go.Proofs.Ytclpdemhfbjliaa
open Go.RowKit Lo

namespace Ff
theorem run_mn (ts : Array TypeId) (t : TypeId) (a b : Int) (w : World) : (Builtin.min_ ts t #[.int .i64 a, .int .i64 b]).run Try.prog w = .ok (.int .i64 (min a b)) w := by
  have e : (if b < a then b else a) = min a b := by omega
  rw [run_min_int2, e]
def tcells (t : Int × Int) : List Value := [.int .i64 t.1, .int .i64 t.2]
theorem tcells_len (t : Int × Int) : (tcells t).length = 2 := rfl
theorem infoK : (Try.prog.info? 35).map (fun i => (i.zero, i.size, i.bytes)) = some (some (.agg #[.int .i64 0, .int .i64 0]), 2, 16) := by kernel_rfl
/-- May a lot of the product not be? -/
def badB (p : Int) (x : Lt) : Bool := decide (x.product = p) && (decide (x.units < 1) || decide (1048576 < x.units))
theorem wrong_eq (l : List Lt) (p u : Int) : wrongB l p u = (decide (u < 1) || l.any (badB p)) := rfl
/-- What is taken, up to a place. -/
def tkk (l : List Lt) (p : Int) (k : Nat) : List Bool := (others (l.take k) p) ++ List.replicate (l.length - k) false
theorem tkk_zero (l : List Lt) (p : Int) : tkk l p 0 = List.replicate l.length false := by simp [tkk, others]
theorem tkk_len {l : List Lt} {p : Int} {k : Nat} (hk : k ≤ l.length) : (tkk l p k).length = l.length := by
  simp [tkk, others]
  omega
theorem tkk_at {l : List Lt} {p : Int} {k : Nat} (hk : k < l.length) : (tkk l p k)[k]? = some false := by
  have h1 : (others (l.take k) p).length = k := by simp [others]; omega
  unfold tkk
  rw [List.getElem?_append_right (by omega), h1, Nat.sub_self, List.getElem?_replicate, if_pos (by omega)]
theorem tkk_next {l : List Lt} {p : Int} {k : Nat} {x : Lt} (hx : l[k]? = some x) : (tkk l p k).set k (x.product != p) = tkk l p (k + 1) := by
  have hk := (List.getElem?_eq_some_iff.1 hx).1
  have h1 : (others (l.take k) p).length = k := by simp [others]; omega
  have h2 : l.length - k = (l.length - (k + 1)) + 1 := by omega
  have h3 : (x.product != p) = decide (x.product ≠ p) := by
    rw [Bool.eq_iff_iff]
    simp
  unfold tkk
  rw [List.set_append, if_neg (by omega), h1, Nat.sub_self, h2, List.replicate_succ, List.set_cons_zero, List.take_add_one, hx, h3]
  simp [others]
theorem tkk_all (l : List Lt) (p : Int) : tkk l p l.length = others l p := by simp [tkk]
theorem any_next {l : List Lt} {p : Int} {k : Nat} {x : Lt} (hx : l[k]? = some x) : (l.take (k + 1)).any (badB p) = ((l.take k).any (badB p) || badB p x) := by
  rw [List.take_add_one, hx, List.any_append]
  simp
/-- How far the picking has come. -/
structure Pst (l : List Lt) (p u : Int) (tk : List Bool) (left : Int) (T : List (Int × Int)) : Prop where
  len : tk.length = l.length
  goes : T ++ pk left (isort (rem l tk)) = pk u (ofP l p)
  sh : short left (isort (rem l tk)) = short u (ofP l p)
  low : 0 ≤ left ∧ left ≤ u
  many : T.length + (rem l tk).length ≤ l.length
  good : ∀ x ∈ rem l tk, 1 ≤ x.units ∧ x.units ≤ 1048576
theorem pst_start {l : List Lt} {p u : Int} (h : wrongB l p u = false) : Pst l p u (others l p) u [] := by
  rw [wrong_eq, Bool.or_eq_false_iff] at h
  refine ⟨by simp [others], by rw [rem_others]; rfl, by rw [rem_others]; rfl, ?_, by simpa using rem_length, fun x hx => ?_⟩
  · have := h.1
    simp at this
    omega
  · rw [rem_others] at hx
    obtain ⟨h1, h2⟩ := List.mem_filter.1 hx
    have h3 := List.any_eq_false.1 h.2 x h1
    unfold badB at h3
    simp at h2 h3
    have := h3 h2
    omega
theorem pst_none {l : List Lt} {p u left : Int} {tk : List Bool} {T : List (Int × Int)} (h : Pst l p u tk left T) (hl : 0 < left) (hu : Upto l tk l.length (-1)) : short u (ofP l p) = true := by
  rw [← h.sh, upto_none hu]
  simp [isort, short, hl]
theorem pst_done {l : List Lt} {p u left : Int} {tk : List Bool} {T : List (Int × Int)} (h : Pst l p u tk left T) (hl : ¬ 0 < left) : short u (ofP l p) = false ∧ pk u (ofP l p) = T := by
  have h1 := h.sh
  have h2 := h.goes
  generalize isort (rem l tk) = Q at *
  cases Q with
  | nil =>
    simp [short, pk, hl] at h1 h2
    exact ⟨by first | exact h1 | exact h1.symm, by first | exact h2 | exact h2.symm⟩
  | cons x Q =>
    simp only [short, pk] at h1 h2
    rw [if_pos (by omega)] at h1 h2
    rw [List.append_nil] at h2
    exact ⟨h1.symm, h2.symm⟩
theorem pst_next {l : List Lt} {p u left : Int} {tk : List Bool} {T : List (Int × Int)} {i : Nat} {x : Lt} (h : Pst l p u tk left T) (hl : 0 < left) (hu : Upto l tk l.length (i : Nat)) (hx : l[i]? = some x) :
    (1 ≤ x.units ∧ x.units ≤ 1048576) ∧ tk[i]? = some false ∧ Pst l p u (tk.set i true) (left - min x.units left) (T ++ [(x.id, min x.units left)]) := by
  have hb := upto_best hu hx
  have hg := h.good x (mem_rem hb.here hb.free)
  have ht := best_take h.len.symm hb
  have hr := rem_at h.len.symm hb.here hb.free
  have h1 := h.goes
  have h2 := h.sh
  rw [ht] at h1 h2
  simp only [pk, short] at h1 h2
  rw [if_neg (by omega)] at h1 h2
  refine ⟨hg, hb.free, ⟨by rw [List.length_set]; exact h.len, by rw [List.append_assoc]; exact h1, h2, ?_, ?_, fun y hy => h.good y ?_⟩⟩
  · have := h.low
    omega
  · have h3 := h.many
    rw [hr.1] at h3
    rw [hr.2]
    simp only [List.length_append, List.length_cons, List.length_nil] at h3 ⊢
    omega
  · rw [hr.2] at hy
    rw [hr.1]
    rcases List.mem_append.1 hy with hy | hy
    · exact List.mem_append.2 (.inl hy)
    · exact List.mem_append.2 (.inr (List.mem_cons_of_mem _ hy))
def PickEnd (w : World) (r : List (Int × Int) × Int) (e : Ending) (w' : World) : Prop := ∃ v, e = .returned (.tuple #[v, .int .i64 r.2]) ∧ w'.ownsRow w.heap.size 35 2 v r.1.length (r.1.flatMap tcells) ∧ Below w.heap.size w w'
theorem pick_wrong {l : List Lt} {p u : Int} (h : wrongB l p u = true) : pickL l p u = ([], 1) := by unfold pickL; rw [if_pos h]
theorem pick_short {l : List Lt} {p u : Int} (h : wrongB l p u = false) (hs : short u (ofP l p) = true) : pickL l p u = ([], 11) := by unfold pickL; rw [if_neg (by rw [h]; exact Bool.false_ne_true), if_pos hs]
theorem pick_ok {l : List Lt} {p u : Int} (h : wrongB l p u = false) (hs : short u (ofP l p) = false) : pickL l p u = (pk u (ofP l p), 0) := by unfold pickL; rw [if_neg (by rw [h]; exact Bool.false_ne_true), if_neg (by rw [hs]; exact Bool.false_ne_true)]
set_option maxRecDepth 100000 in
set_option maxHeartbeats 16000000 in
theorem r15pick_any (p : Option Addr) (n c : Nat) (L : List Lv) (pr u : Int) (w : World) (hA : Rw 8 lcells w p n L) (hn : n ≤ 1000000) (hu : u ≤ 9223372036854775807) :
    Calls Try.prog 9 #[.slice p n c, .int .i64 pr, .int .i64 u] w (PickEnd w (pickL (lts L) pr u)) := by
  obtain ⟨i0, hi, iz0, iz1, iz2⟩ := info_parts infoK
  have hn' : (n : Int) ≤ 1000000 := by omega
  have HA := Lib.hid hA
  have HN := Lib.hid hA.1
  have HS := Lib.hid (show (lts L).length = n by unfold lts; rw [List.length_map]; exact hA.1)
  have hmk := run_make_row' (P := Try.prog) 43 4 (.bool false) 1 Try.underlying43 infoB rfl .i64 .i64 n (by omega) (by omega) w
  have O0 := Lib.hid (made_own w n hn)
  have K0 := tkk_zero (lts L) pr
  rw [HS.out] at K0
  rw [← K0] at O0
  have W0 := Lib.hid (wrong_eq (lts L) pr u)
  have B0 := Lib.hid (alloc_below w (.cells (madeCells #[.bool false] n) 4))
  have Z0 := Lib.hid (show w.heap.size + 1 ≤ (w.alloc (.cells (madeCells #[.bool false] n) 4)).heap.size by simp)
  obtain ⟨u0, hu0⟩ : ∃ t, decide (u < 1) = t := ⟨_, rfl⟩
  rw [hu0] at W0
  have HU := Lib.hid hu0
  clear hA K0
  go_enter Try.func9, Try.ntmps9
  go_wp2_with fail
  generalize w.alloc (.cells (madeCells #[.bool false] n) 4) = w0 at *
  clear hmk hu0
  go_loopw [9, 10] (fun b i wr => ∃ k : Nat, k ≤ n ∧ i = .int .i64 k ∧ b = .bool (u0 || ((lts L).take k).any (badB pr)) ∧ Hid (wr.ownsRow w.heap.size 4 1 (.slice (some ⟨w.heap.size, 0, none⟩) n n) n ((tkk (lts L) pr k).flatMap bcells)) ∧ Hid (Below w.heap.size w wr) ∧ Hid (w.heap.size + 1 ≤ wr.heap.size)) (fun _ i _ => n - (RowKit.intOf i).toNat)
  case atStart => exact ⟨0, Nat.zero_le _, rfl, by simp, O0, B0, Z0⟩
  case round =>
    clear O0 B0 Z0
    obtain ⟨k, hk, rfl, rfl, OT, BR, ZR⟩ := hrel
    by_cases hlt : k < n
    · obtain ⟨y, hy⟩ : ∃ y, L[k]? = some y := ⟨_, List.getElem?_eq_getElem (by rw [HN.out]; exact hlt)⟩
      have hk3 : (k : Int) < (n : Int) := by omega
      obtain ⟨b, o, rfl, j0, e1, e2, j3⟩ := lv_at (HA.out.keep lcells_len BR.out) hy
      have TA := Lib.hid (tkk_at (l := lts L) (p := pr) (k := k) (by rw [HS.out]; exact hlt))
      have TN0 := Lib.hid (tkk_next (p := pr) (lts_at hy))
      have NB0 := Lib.hid (any_next (p := pr) (lts_at hy))
      obtain ⟨g, hg, j1, j2, c0⟩ := tk_at OT.out (by rw [tkk_len (by rw [HS.out]; exact hk)]; exact HS.out) TA.out
      have f0 : wr.frozen? ⟨w.heap.size, k, none⟩ = false := OT.out.frozenAt k
      obtain rfl : w.heap.size = g := by
        have := Option.some.inj hg
        injection this
      have HY := Lib.hid hy
      obtain ⟨yp, hpv⟩ : ∃ t, y.x.product = t := ⟨_, rfl⟩
      obtain ⟨yu, huv⟩ : ∃ t, y.x.units = t := ⟨_, rfl⟩
      rw [hpv] at e1
      rw [huv] at e2
      have HPV := Lib.hid hpv
      have HUV := Lib.hid huv
      have NB : Hid ((u0 || ((lts L).take (k + 1)).any (badB pr)) = ((u0 || ((lts L).take k).any (badB pr)) || (decide (yp = pr) && (decide (yu < 1) || decide (1048576 < yu))))) := Lib.hid (by
        rw [NB0.out, ← Bool.or_assoc]
        unfold badB
        rw [hpv, huv])
      have TN1 := TN0.out
      rw [hpv] at TN1
      generalize (u0 || ((lts L).take k).any (badB pr)) = wk at *
      clear hy hg j0 j1 j2 j3 NB0 TN0 hpv huv
      by_cases hp : yp = pr
      · subst hp
        have q1 : (yp != yp) = false := by simp
        have q2 : (yp == yp) = true := by simp
        rw [q1] at TN1
        have TN := Lib.hid TN1
        clear TN1
        have ST := Lib.hid (row_store bcells_len OT.out TA.out (i := 0) (by decide) (u := .bool false) (x' := false) rfl)
        rw [Nat.mul_one, Nat.add_zero, TN.out] at ST
        go_upto_region 7 with fail
        have B2 := Lib.hid (BR.out.setCell (p := ⟨w.heap.size, k, none⟩) (Nat.le_refl _) (.bool false))
        have Z2 := Lib.hid (show w.heap.size + 1 ≤ (wr.setCell ⟨w.heap.size, k, none⟩ (.bool false)).heap.size from by simpa using ZR.out)
        clear c0 f0 e1 e2
        generalize wr.setCell ⟨w.heap.size, k, none⟩ (.bool false) = w2 at *
        obtain ⟨b', o', eq, g0, e1, e2, g3⟩ := lv_at (HA.out.keep lcells_len B2.out) HY.out
        cases eq
        rw [HPV.out] at e1
        rw [HUV.out] at e2
        clear g0 g3
        cases wk with
        | true =>
          have NV := Lib.hid (show (u0 || ((lts L).take (k + 1)).any (badB yp)) = true from by rw [NB.out]; simp)
          clear NB
          go_wp2
          go_roundw
          case rel => exact ⟨k + 1, by omega, by go_num, by rw [NV.out], ST, B2, Z2⟩
          case measure => simp [RowKit.intOf]; omega
        | false =>
          by_cases h1 : yu < 1
          · have NV := Lib.hid (show (u0 || ((lts L).take (k + 1)).any (badB yp)) = true from by rw [NB.out]; simp; exact .inl (by omega))
            clear NB
            go_wp2
            go_roundw
            case rel => exact ⟨k + 1, by omega, by go_num, by rw [NV.out], ST, B2, Z2⟩
            case measure => simp [RowKit.intOf]; omega
          · by_cases h2 : 1048576 < yu
            · have NV := Lib.hid (show (u0 || ((lts L).take (k + 1)).any (badB yp)) = true from by rw [NB.out]; simp; exact .inr (by omega))
              clear NB
              go_wp2
              go_roundw
              case rel => exact ⟨k + 1, by omega, by go_num, by rw [NV.out], ST, B2, Z2⟩
              case measure => simp [RowKit.intOf]; omega
            · have NV := Lib.hid (show (u0 || ((lts L).take (k + 1)).any (badB yp)) = false from by rw [NB.out]; simp; omega)
              clear NB
              go_wp2
              go_roundw
              case rel => exact ⟨k + 1, by omega, by go_num, by rw [NV.out], ST, B2, Z2⟩
              case measure => simp [RowKit.intOf]; omega
      · have q1 : (yp != pr) = true := by simp [hp]
        have q2 : (yp == pr) = false := by simp [hp]
        rw [q1] at TN1
        have TN := Lib.hid TN1
        clear TN1
        have ST := Lib.hid (row_store bcells_len OT.out TA.out (i := 0) (by decide) (u := .bool true) (x' := true) rfl)
        rw [Nat.mul_one, Nat.add_zero, TN.out] at ST
        go_upto_region 7 with fail
        have B2 := Lib.hid (BR.out.setCell (p := ⟨w.heap.size, k, none⟩) (Nat.le_refl _) (.bool true))
        have Z2 := Lib.hid (show w.heap.size + 1 ≤ (wr.setCell ⟨w.heap.size, k, none⟩ (.bool true)).heap.size from by simpa using ZR.out)
        clear c0 f0 e1 e2
        generalize wr.setCell ⟨w.heap.size, k, none⟩ (.bool true) = w2 at *
        obtain ⟨b', o', eq, g0, e1, e2, g3⟩ := lv_at (HA.out.keep lcells_len B2.out) HY.out
        cases eq
        rw [HPV.out] at e1
        rw [HUV.out] at e2
        clear g0 g3
        have NV := Lib.hid (show (u0 || ((lts L).take (k + 1)).any (badB pr)) = wk from by rw [NB.out]; simp [hp])
        clear NB hp
        cases wk with
        | true =>
          go_wp2
          go_roundw
          case rel => exact ⟨k + 1, by omega, by go_num, by rw [NV.out], ST, B2, Z2⟩
          case measure => simp [RowKit.intOf]; omega
        | false =>
          go_wp2
          go_roundw
          case rel => exact ⟨k + 1, by omega, by go_num, by rw [NV.out], ST, B2, Z2⟩
          case measure => simp [RowKit.intOf]; omega
    · obtain rfl : k = n := by omega
      have WV := W0.out
      have hT : (lts L).take k = lts L := List.take_of_length_le (by rw [HS.out]; exact Nat.le_refl _)
      rw [hT] at *
      have TA : tkk (lts L) pr k = others (lts L) pr := by
        have := tkk_all (lts L) pr
        rwa [HS.out] at this
      rw [TA] at OT
      clear hT TA
      generalize (u0 || (lts L).any (badB pr)) = wv at *
      cases wv with
      | true =>
        have PW := Lib.hid (pick_wrong WV)
        clear WV
        go_wp2
        go_ret2
        refine ⟨.slice none 0 0, by rw [PW.out]; rfl, ?_, BR.out⟩
        rw [PW.out]
        exact World.ownsRow_nil _ _ _ _
      | false =>
        have PS := Lib.hid (pst_start WV)
        have PW := Lib.hid (fun hs => pick_short WV hs)
        have PO := Lib.hid (fun hs => pick_ok WV hs)
        clear WV W0
        go_wp2_with fail
        go_loopw [11, 12, 13, 14] (fun v lf _ _ wx => ∃ (tk : List Bool) (left : Int) (T : List (Int × Int)) (q : Option Addr) (d m : Nat), v = .slice q m d ∧ lf = .int .i64 left ∧ Hid (T.length = m) ∧ Hid (Pst (lts L) pr u tk left T) ∧ Hid (wx.ownsRow w.heap.size 4 1 (.slice (some ⟨w.heap.size, 0, none⟩) k k) k (tk.flatMap bcells)) ∧ Hid (wx.ownsRow (w.heap.size + 1) 35 2 (.slice q m d) m (T.flatMap tcells)) ∧ Hid (Below w.heap.size w wx) ∧ Hid (w.heap.size + 1 ≤ wx.heap.size)) (fun v _ _ _ _ => k + 1 - lenOf v)
        case atStart => exact ⟨_, u, [], none, 0, 0, rfl, rfl, Lib.hid rfl, PS, OT, Lib.hid (World.ownsRow_nil _ _ _ _), BR, ZR⟩
        case round =>
          clear PS OT BR ZR
          obtain ⟨tk, left, T, q, d, m, rfl, rfl, HM, QS, OT, OV, BX, ZX⟩ := hrel
          have hlow := QS.out.low
          have hmany := QS.out.many
          rw [HM.out, HS.out] at hmany
          have hm : m ≤ k := by omega
          by_cases hl : 0 < left
          · have F := Lib.hid (first_any p (some ⟨w.heap.size, 0, none⟩) k c k w.heap.size L tk wr (HA.out.keep lcells_len BX.out) OT.out (QS.out.len.trans HS.out) hn)
            have t0 : decide (left > 0) = true := by simp; omega
            go_wp2_with fail
            refine F.out.mono ?_
            intro e w2 he
            obtain ⟨b, rfl, hu2, hb2⟩ := he
            have B2 := Lib.hid (BX.out.trans (hb2.mono BX.out.size))
            rcases upto_place hu2 with rfl | ⟨i, x, rfl, hil, hx⟩
            · have PN := Lib.hid (PW.out (pst_none QS.out hl hu2))
              clear hb2 hu2 F
              go_wp2
              go_ret2
              refine ⟨.slice none 0 0, by rw [PN.out]; rfl, ?_, B2.out⟩
              rw [PN.out]
              exact World.ownsRow_nil _ _ _ _
            · rw [HS.out] at hil
              have hi3 : (i : Int) < (k : Int) := by omega
              have hi0 : decide ((i : Int) < 0) = false := by simp
              obtain ⟨hg2, hfree, hq⟩ := pst_next QS.out hl hu2 hx
              have Z2 := Lib.hid (Nat.le_trans ZX.out hb2.size)
              have OT2 := Lib.hid (own_turn OT.out (Turn.of_below (S := fun _ => False) hb2) (fun _ _ hf => hf))
              have OV2 := Lib.hid (own_turn OV.out (Turn.of_below (S := fun _ => False) hb2) (fun _ _ hf => hf))
              obtain ⟨y, hy⟩ : ∃ y, L[i]? = some y := ⟨_, List.getElem?_eq_getElem (by rw [HN.out]; exact hil)⟩
              obtain rfl : x = y.x := by
                have h1 := lts_at hy
                rw [hx] at h1
                exact Option.some.inj h1
              have HY := Lib.hid hy
              obtain ⟨g, hgg, j1, j2, c0⟩ := tk_at OT2.out (QS.out.len.trans HS.out) hfree
              obtain rfl : w.heap.size = g := by
                have := Option.some.inj hgg
                injection this
              have f0 : w2.frozen? ⟨w.heap.size, i, none⟩ = false := OT2.out.frozenAt i
              have ST := Lib.hid (row_store bcells_len OT2.out hfree (i := 0) (by decide) (u := .bool true) (x' := true) rfl)
              rw [Nat.mul_one, Nat.add_zero] at ST
              obtain ⟨yu, huv⟩ : ∃ t, y.x.units = t := ⟨_, rfl⟩
              obtain ⟨yi, hiv⟩ : ∃ t, y.x.id = t := ⟨_, rfl⟩
              rw [huv, hiv] at hq
              rw [huv] at hg2
              have HUV := Lib.hid huv
              have HIV := Lib.hid hiv
              obtain ⟨nn, hnn⟩ : ∃ t, min yu left = t := ⟨_, rfl⟩
              have hn1 : 1 ≤ nn ∧ nn ≤ left ∧ nn ≤ 1048576 := by omega
              rw [hnn] at hq
              have Q2 := Lib.hid hq
              have MN := fun (ts : Array TypeId) (ty : TypeId) W => run_mn ts ty yu left W
              rw [hnn] at MN
              have LW : Hid (IntKind.i64.wrap (left - nn) = left - nn) := Lib.hid (IntWalk.i64_in _ (by omega))
              clear hu2 hb2 hx hq hfree hy hgg j1 j2 F QS OT OV BX ZX huv hiv hnn hg2
              go_upto_region 17 with fail
              have TS := Lib.hid ((Turn.refl (fun z => z = w.heap.size) w2).setCell (p := ⟨w.heap.size, i, none⟩) (.inl rfl) (.bool true))
              have OV3 := Lib.hid (own_turn OV2.out TS.out (fun b hb e => by have := own_lt OV2.out hb; omega))
              have B3 := Lib.hid (B2.out.setCell (p := ⟨w.heap.size, i, none⟩) (Nat.le_refl _) (.bool true))
              have Z3 := Lib.hid (Nat.le_trans Z2.out TS.out.size)
              clear c0 f0 OT2 OV2 B2 Z2 TS
              generalize w2.setCell ⟨w.heap.size, i, none⟩ (.bool true) = w3 at *
              obtain ⟨b, o, rfl, e0, j1, e2, j3⟩ := lv_at (HA.out.keep lcells_len B3.out) HY.out
              rw [HIV.out] at e0
              rw [HUV.out] at e2
              clear j1 j3 HY HIV HUV
              have hsz := Z3.out
              have hm' : (m : Int) ≤ 1000000 := by omega
              go_wp2_with (at_builtin; refine wpList_append_own _ rfl _ _ 30 rfl (w.heap.size + 1) 35 i0 _ 2 16 Try.underlying30 hi iz0 iz1 iz2 rfl (by decide) _ _ _ rfl (OV3.out.alloc _) ⟨w3.heap.size, 0, none⟩ 1 1 [.int .i64 yi, .int .i64 nn] rfl rfl (World.news_of_block (cs := #[.int .i64 yi, .int .i64 nn]) (t := 35) (fr := (0, 0)) (heap_alloc_new w3 _)) (by simp [Value.oneCell']) (by unfold maxLen; omega) (by omega) (by simp; omega) ?_; intro v4 w4 hown4 hg4 _; have T4 := Lib.hid (((Turn.refl (fun b => (Value.slice q m d).ownBlock = some b) w3).alloc (.cells #[.int .i64 yi, .int .i64 nn] 35)).grown hg4 (fun b hb => .inl hb)))
              obtain ⟨q4, d4, rfl⟩ := own_slice hown4
              have O4 := Lib.hid hown4
              have OT4 := Lib.hid (own_turn ST.out T4.out (fun b hb hf => by
                have h1 := own_lt OV3.out hf
                have h2 : w.heap.size = b := Option.some.inj hb
                omega))
              have B4 := Lib.hid (T4.out.below B3.out B3.out.size (fun b hb => by have := own_lt OV3.out hb; omega))
              have Z4 := Lib.hid (Nat.le_trans Z3.out T4.out.size)
              have HM4 := Lib.hid (show (T ++ [(yi, nn)]).length = m + 1 by rw [List.length_append, HM.out]; rfl)
              clear hown4 hg4 e0 e2 hsz T4 MN
              (try go_wp2)
              go_roundw
              case rel => exact ⟨_, left - nn, T ++ [(yi, nn)], _, _, _, rfl, by first | rfl | rw [LW.out], HM4, Q2, OT4, Lib.hid (by
                rw [← flat_snoc]
                exact O4.out), B4, Z4⟩
              case measure => simp [lenOf]; omega
          · have t0 : decide (left > 0) = false := by simp; omega
            obtain ⟨h1, h2⟩ := pst_done QS.out hl
            have PF := Lib.hid (PO.out h1)
            rw [h2] at PF
            clear h1 h2
            go_wp2
            go_ret2
            refine ⟨.slice q m d, by rw [PF.out]; rfl, ?_, BX.out⟩
            rw [PF.out]
            show wr.ownsRow w.heap.size 35 2 (.slice q m d) T.length (T.flatMap tcells)
            rw [HM.out]
            exact own_floor OV.out (Nat.le_succ _)
end Ff
end Go.Proofs.Ytclpdemhfbjliaa
