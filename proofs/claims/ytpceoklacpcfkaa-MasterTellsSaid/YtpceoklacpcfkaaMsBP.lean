/- Walks over the document's answer of layer 10: one more (Product). No condition but those written. -/
import Derived.Test.YtpceoklacpcfkaaMsP1
import Derived.Test.YtpceoklacpcfkaaMsRP
import Derived.Test.YtpceoklacpcfkaaMsRM
import Derived.BigQuiet
import Derived.Deep.QuietTactic
namespace Go.Proofs.Ytpceoklacpcfkaa
open Go.RowKit

namespace Ms
/-- What a call leaves that adds. -/
def RAddP (w : World) (B g : Nat) (vz vp : Value) (Z : List Zn) (r : Nat × List Pd) (e : Ending) (w' : World) : Prop :=
  e = .returned (.int .i64 (r.1 : Nat)) ∧ ∃ v', RM w' B g vz v' Z r.2 ∧ Turn (fun k => k = g) w w' ∧ (v' = vp ∨ ∀ b, v'.ownBlock = some b → w.heap.size ≤ b)
theorem raddP_same {w w' : World} {B g n : Nat} {vz vp : Value} {Z : List Zn} {P : List Pd} (h : RM w B g vz vp Z P) (hb : Below w.heap.size w w') : RAddP w B g vz vp Z (n, P) (.returned (.int .i64 (n : Nat))) w' :=
  ⟨rfl, vp, h.keep hb, Turn.of_below hb, .inl rfl⟩
theorem raddP_end {w w1 wr : World} {B g f n : Nat} {vz vp v' : Value} {Z : List Zn} {P : List Pd} {out : List Pd} (h : RM w B g vz vp Z P) (hb : Below w.heap.size w w1) (hr : Below w1.heap.size w1 wr) (ho : wr.ownsRow w1.heap.size 36 3 v' f (out.flatMap pcells)) (hf : out.length = f) :
    RAddP w B g vz vp Z (n, out) (.returned (.int .i64 (n : Nat))) (wr.setCell ⟨g, 1, none⟩ v') := by
  subst hf
  have hbr := hb.trans (hr.mono hb.size)
  have h2 := h.keep hbr
  have hlt := h.2.1.lt
  have hT : Turn (fun k => k = g) wr (wr.setCell ⟨g, 1, none⟩ v') := (Turn.refl (fun k => k = g) wr).setCell (p := ⟨g, 1, none⟩) (.inl rfl) _
  have hs := hb.size
  refine ⟨rfl, v', ⟨h.1, by simpa using h2.2.1.set_ 1 v', own_turn h2.2.2.1 hT (fun k hk e => own_blk_ne h2.2.2.1 h2.2.1 (by decide) (by rw [hk, e])), own_turn (own_floor2 ho (Nat.le_trans h.1 (Nat.le_of_lt (Nat.lt_of_lt_of_le hlt hs)))) hT (fun k hk e => by have := (own_lt ho hk).1; omega)⟩, ((Turn.of_below (S := fun k => k = g) hbr).setCell (p := ⟨g, 1, none⟩) (.inl rfl) _), .inr fun b hbb => by have := (own_lt ho hbb).1; omega⟩
set_option maxRecDepth 100000 in
set_option maxHeartbeats 8000000 in
theorem raddP_yes (B g : Nat) (vz vp : Value) (Z : List Zn) (P : List Pd) (x : Pd) (w : World) (h : RM w B g vz vp Z P) (hr : rightP x = true) (hL : P.length ≤ 1000000) :
    Calls Try.prog 10 #[.pointer (some ⟨g, 0, none⟩), pval x] w (RAddP w B g vz vp Z (addL Pd.id P x)) := by
  obtain ⟨i0, hi, hz0, hz1, hz2⟩ := info_parts infoTP
  have R := Lib.hid (fun W => rrightP_any x W)
  rw [hr] at R
  have H := Lib.hid h
  have B0 := Lib.hid (alloc_below w (.cells #[.int .i64 x.id, .int .i64 x.limit, .int .i64 x.budget] 36))
  have X0 := Lib.hid (Lies.new w 36 #[.int .i64 x.id, .int .i64 x.limit, .int .i64 x.budget])
  clear hr
  obtain ⟨q0, d0, hv⟩ := own_slice h.2.2.2
  subst hv
  clear h
  obtain ⟨n, hn⟩ : ∃ n, P.length = n := ⟨_, rfl⟩
  have HN := Lib.hid hn
  have HXC : Hid (pcells x = [.int .i64 x.id, .int .i64 x.limit, .int .i64 x.budget]) := Lib.hid rfl
  have FS := Lib.hid (fun (W : World) (hW : Below w.heap.size w W) => raddP_same (n := 6) H.out hW)
  have FE := Lib.hid (fun (w1 : World) (h1 : Below w.heap.size w w1) (wr : World) (h2 : Below w1.heap.size w1 wr) (v' : Value) (f : Nat) (out : List Pd) (h3 : wr.ownsRow w1.heap.size 36 3 v' f (out.flatMap pcells)) (h4 : out.length = f) => raddP_end (n := 0) H.out h1 h2 h3 h4)
  rw [hn] at hL
  have hL' : (n : Int) ≤ 1000000 := by omega
  have FA := Lib.hid (fun (k : Nat) (y : Pd) (hy : P[k]? = some y) (he : y.id = x.id) (done : Bool) (out : List Pd) (hf : Far (key := Pd.id) x P k done out) => far_twice hf hy he)
  have FD := Lib.hid (fun (k : Nat) (y : Pd) (out : List Pd) (hf : Far (key := Pd.id) x P k true out) (hy : P[k]? = some y) (he : y.id ≠ x.id) => far_done hf hy he)
  have FH := Lib.hid (fun (k : Nat) (y : Pd) (out : List Pd) (hf : Far (key := Pd.id) x P k false out) (hy : P[k]? = some y) (he : x.id < y.id) => far_here hf hy he)
  have FN := Lib.hid (fun (k : Nat) (y : Pd) (out : List Pd) (hf : Far (key := Pd.id) x P k false out) (hy : P[k]? = some y) (he : y.id ≠ x.id) (h2 : ¬ x.id < y.id) => far_not hf hy he h2)
  have F0 := Lib.hid (far_start (key := Pd.id) x P)
  have FZ := Lib.hid (fun (done : Bool) (out : List Pd) (hf : Far (key := Pd.id) x P n done out) => far_end (hn ▸ hf))
  rw [hn] at H
  clear hn
  obtain ⟨ka, kb, kc⟩ := x
  unfold pval
  simp only at R B0 X0 HXC FA FD FH FN ⊢
  go_enter Try.func10, Try.ntmps10
  go_wp2_with fail
  refine (R.out _).mono ?_
  rintro e w1 ⟨rfl, hb⟩
  have B1 := Lib.hid (B0.out.trans (hb.mono B0.out.size))
  have X1 := Lib.hid (X0.out.below hb X0.out.lt)
  have FG := Lib.hid (fun (W : World) (hW : Below w1.heap.size w1 W) => ((H.out.keep B1.out).keep hW))
  have FX := Lib.hid (fun (W : World) (hW : Below w1.heap.size w1 W) => X1.out.below hW X1.out.lt)
  clear hb B0 X0 R H
  go_wp2_with fail
  go_loopw [6, 7, 8] (fun v dn i wr => ∃ (k f : Nat) (done : Bool) (out : List Pd), k ≤ n ∧ f ≤ k + 1 ∧ i = .int .i64 k ∧ dn = .bool done ∧ (∃ q d, v = .slice q f d) ∧ Hid (out.length = f) ∧ Hid (Far (key := Pd.id) ⟨ka, kb, kc⟩ P k done out) ∧ Hid (wr.ownsRow w1.heap.size 36 3 v f (out.flatMap pcells)) ∧ Hid (Below w1.heap.size w1 wr)) (fun _ _ i _ => n - (RowKit.intOf i).toNat)
  case atStart => exact ⟨0, 0, false, [], Nat.zero_le _, Nat.zero_le _, rfl, rfl, ⟨none, 0, rfl⟩, Lib.hid rfl, F0, Lib.hid (World.ownsRow_nil _ _ _ _), Lib.hid (Below.refl _ _)⟩
  case round =>
    obtain ⟨k, f, done, out, hk, hf, rfl, rfl, ⟨q, d, rfl⟩, HF, FR, RO, BR⟩ := hrel
    have GR := FG.out wr BR.out
    have XR := FX.out wr BR.out
    have m0 : wr.cell? ⟨g, 1, none⟩ = some (.slice q0 n d0) := GR.2.1.cell 1
    have x0 : wr.cell? ⟨w.heap.size, 0, none⟩ = some (.int .i64 ka) := XR.cell 0
    have x1 : wr.cell? ⟨w.heap.size, 1, none⟩ = some (.int .i64 kb) := XR.cell 1
    have x2 : wr.cell? ⟨w.heap.size, 2, none⟩ = some (.int .i64 kc) := XR.cell 2
    by_cases hlt : k < n
    · have hk3 : (k : Int) < (n : Int) := by omega
      obtain ⟨y, hy⟩ : ∃ y, P[k]? = some y := ⟨_, List.getElem?_eq_getElem (by rw [HN.out]; exact hlt)⟩
      obtain ⟨blk, cc, e, hb1, hb2, hncc⟩ := own_some GR.2.2.2 (by rw [HN.out]; omega)
      rw [HN.out] at e
      have FE1 := Lib.hid (fun (W : World) (hW : Below w1.heap.size w1 W) i (hi : i < 3) => by
        have o2 := (FG.out W hW).2.2.2
        rw [e, HN.out] at o2
        exact row_cell pcells_len o2 HN.out hy hi)
      cases e
      have HY := Lib.hid hy
      have HYC : Hid (pcells y = [.int .i64 y.id, .int .i64 y.limit, .int .i64 y.budget]) := Lib.hid rfl
      clear hy hb1 hb2 GR XR
      have FA := Lib.hid (fun he => FA.out k y HY.out he done out FR.out)
      have hF0 := HF.out
      obtain ⟨ka2, kb2, kc2⟩ := y
      simp only at HYC FA
      have e0 : wr.cell? ⟨blk, k * 3, none⟩ = some (.int .i64 ka2) := FE1.out wr BR.out 0 (by decide)
      have e1 : wr.cell? ⟨blk, k * 3 + 1, none⟩ = some (.int .i64 kb2) := FE1.out wr BR.out 1 (by decide)
      have e2 : wr.cell? ⟨blk, k * 3 + 2, none⟩ = some (.int .i64 kc2) := FE1.out wr BR.out 2 (by decide)
      clear hF0
      by_cases ha : ka2 = ka
      · subst ha
        have HE := Lib.hid (FA.out rfl)
        go_wp2_with fail
        go_quiet (fail)
        go_wp2
        go_ret
        rw [HE.out]
        have := FS.out (wr.drewN nq) (B1.out.trans ((below_drewN BR.out nq).mono B1.out.size))
        exact ⟨rfl, this.2⟩
      · have ha2 : (ka2 == ka) = false := by simp [ha]
        have HA := Lib.hid ha
        clear ha FA
        go_wp2_with fail
        go_quiet (fail)
        have B3 := Lib.hid (below_drewN BR.out nq)
        have O3 := Lib.hid (own_turn RO.out (turn_drewN wr (fun _ => False) nq) (fun _ _ hf => hf))
        obtain ⟨w3, hw3⟩ : ∃ w3, wr.drewN nq = w3 := ⟨_, rfl⟩
        rw [hw3] at B3 O3 ⊢
        clear hw3 m0 x0 x1 x2 e0 e1 e2 ha2
        have m0 : w3.cell? ⟨g, 1, none⟩ = some (.slice (some ⟨blk, 0, none⟩) n d0) := (FG.out w3 B3.out).2.1.cell 1
        have x0 : w3.cell? ⟨w.heap.size, 0, none⟩ = some (.int .i64 ka) := (FX.out w3 B3.out).cell 0
        have x1 : w3.cell? ⟨w.heap.size, 1, none⟩ = some (.int .i64 kb) := (FX.out w3 B3.out).cell 1
        have x2 : w3.cell? ⟨w.heap.size, 2, none⟩ = some (.int .i64 kc) := (FX.out w3 B3.out).cell 2
        have e0 : w3.cell? ⟨blk, k * 3, none⟩ = some (.int .i64 ka2) := FE1.out w3 B3.out 0 (by decide)
        have e1 : w3.cell? ⟨blk, k * 3 + 1, none⟩ = some (.int .i64 kb2) := FE1.out w3 B3.out 1 (by decide)
        have e2 : w3.cell? ⟨blk, k * 3 + 2, none⟩ = some (.int .i64 kc2) := FE1.out w3 B3.out 2 (by decide)
        cases done with
        | true =>
          have FF := Lib.hid (FD.out k _ out FR.out HY.out HA.out)
          go_wp2_with fail
          go_quiet (fail)
          have B4 := Lib.hid (below_drewN B3.out nq)
          have O4 := Lib.hid (own_turn O3.out (turn_drewN w3 (fun _ => False) nq) (fun _ _ hf => hf))
          obtain ⟨w4, hw4⟩ : ∃ w4, w3.drewN nq = w4 := ⟨_, rfl⟩
          rw [hw4] at B4 O4 ⊢
          clear hw4 m0 x0 x1 x2 e0 e1 e2 B3 O3 RO BR
          have m0 : w4.cell? ⟨g, 1, none⟩ = some (.slice (some ⟨blk, 0, none⟩) n d0) := (FG.out w4 B4.out).2.1.cell 1
          have e0 : w4.cell? ⟨blk, k * 3, none⟩ = some (.int .i64 ka2) := FE1.out w4 B4.out 0 (by decide)
          have e1 : w4.cell? ⟨blk, k * 3 + 1, none⟩ = some (.int .i64 kb2) := FE1.out w4 B4.out 1 (by decide)
          have e2 : w4.cell? ⟨blk, k * 3 + 2, none⟩ = some (.int .i64 kc2) := FE1.out w4 B4.out 2 (by decide)
          have hs4 := B4.out.size
          go_wp2_with (at_builtin; refine wpList_append_own _ rfl _ _ 23 rfl w1.heap.size 36 i0 _ 3 24 Try.underlying23 hi hz0 hz1 hz2 rfl (by decide) _ _ _ rfl (O4.out.alloc _) ⟨w4.heap.size, 0, none⟩ 1 1 [.int .i64 ka2, .int .i64 kb2, .int .i64 kc2] rfl rfl (World.news_of_block (cs := #[.int .i64 ka2, .int .i64 kb2, .int .i64 kc2]) (t := 36) (fr := (0, 0)) (heap_alloc_new w4 _)) (by simp [Value.oneCell']) (by unfold maxLen; omega) (by omega) (by simp; omega) ?_; intro v5 w5 hown5 hg5 _; have B5 := Lib.hid ((B4.out.alloc hs4 (.cells #[.int .i64 ka2, .int .i64 kb2, .int .i64 kc2] 36)).grown hg5 (Nat.le_trans hs4 (size_alloc _ _)) (fun i hi => (own_lt O4.out hi).1)); have hs5 := B5.out.size)
          obtain ⟨q5, d5, rfl⟩ := own_slice hown5
          have O5 := Lib.hid hown5
          clear hown5 hg5
          go_wp2
          go_roundw
          case rel => exact ⟨k + 1, f + 1, true, out ++ [⟨ka2, kb2, kc2⟩], by omega, by omega, by go_num, rfl, ⟨_, _, rfl⟩, Lib.hid (by have := HF.out; simp [this]), FF, Lib.hid (by
            rw [← flat_snoc, HYC.out]
            exact O5.out), B5⟩
          case measure => simp [RowKit.intOf]; omega
        | false =>
          by_cases hg : ka < ka2
          · have hF1 := far_len0 FR.out
            rw [HF.out] at hF1
            have FF := Lib.hid (FH.out k _ out FR.out HY.out hg)
            go_wp2_with fail
            go_quiet (fail)
            have B4 := Lib.hid (below_drewN B3.out nq)
            have O4 := Lib.hid (own_turn O3.out (turn_drewN w3 (fun _ => False) nq) (fun _ _ hf => hf))
            obtain ⟨w4, hw4⟩ : ∃ w4, w3.drewN nq = w4 := ⟨_, rfl⟩
            rw [hw4] at B4 O4 ⊢
            clear hw4 m0 x0 x1 x2 e0 e1 e2 B3 O3 RO BR hg
            have x0 : w4.cell? ⟨w.heap.size, 0, none⟩ = some (.int .i64 ka) := (FX.out w4 B4.out).cell 0
            have x1 : w4.cell? ⟨w.heap.size, 1, none⟩ = some (.int .i64 kb) := (FX.out w4 B4.out).cell 1
            have x2 : w4.cell? ⟨w.heap.size, 2, none⟩ = some (.int .i64 kc) := (FX.out w4 B4.out).cell 2
            have hs4 := B4.out.size
            go_wp2_with (first | (at_builtin; refine wpList_append_own _ rfl _ _ 23 rfl w1.heap.size 36 i0 _ 3 24 Try.underlying23 hi hz0 hz1 hz2 rfl (by decide) _ _ _ rfl (O4.out.alloc _) ⟨w4.heap.size, 0, none⟩ 1 1 [.int .i64 ka, .int .i64 kb, .int .i64 kc] rfl rfl (World.news_of_block (cs := #[.int .i64 ka, .int .i64 kb, .int .i64 kc]) (t := 36) (fr := (0, 0)) (heap_alloc_new w4 _)) (by simp [Value.oneCell']) (by unfold maxLen; omega) (by omega) (by simp; omega) ?_; intro v5 w5 hown5 hg5 _; have B5 := Lib.hid ((B4.out.alloc hs4 (.cells #[.int .i64 ka, .int .i64 kb, .int .i64 kc] 36)).grown hg5 (Nat.le_trans hs4 (size_alloc _ _)) (fun i hi => (own_lt O4.out hi).1)); have hs5 := B5.out.size; have m5 : w5.cell? ⟨g, 1, none⟩ = some (.slice (some ⟨blk, 0, none⟩) n d0) := (FG.out w5 B5.out).2.1.cell 1; have y0 : w5.cell? ⟨blk, k * 3, none⟩ = some (.int .i64 ka2) := FE1.out w5 B5.out 0 (by decide); have y1 : w5.cell? ⟨blk, k * 3 + 1, none⟩ = some (.int .i64 kb2) := FE1.out w5 B5.out 1 (by decide); have y2 : w5.cell? ⟨blk, k * 3 + 2, none⟩ = some (.int .i64 kc2) := FE1.out w5 B5.out 2 (by decide)) | (at_builtin; refine wpList_append_own _ rfl _ _ 23 rfl w1.heap.size 36 i0 _ 3 24 Try.underlying23 hi hz0 hz1 hz2 rfl (by decide) _ _ _ rfl (hown5.alloc _) ⟨w5.heap.size, 0, none⟩ 1 1 [.int .i64 ka2, .int .i64 kb2, .int .i64 kc2] rfl rfl (World.news_of_block (cs := #[.int .i64 ka2, .int .i64 kb2, .int .i64 kc2]) (t := 36) (fr := (0, 0)) (heap_alloc_new w5 _)) (by simp [Value.oneCell']) (by unfold maxLen; omega) (by omega) (by simp; omega) ?_; intro v6 w6 hown6 hg6 _; have B6 := Lib.hid ((B5.out.alloc hs5 (.cells #[.int .i64 ka2, .int .i64 kb2, .int .i64 kc2] 36)).grown hg6 (Nat.le_trans hs5 (size_alloc _ _)) (fun i hi => (own_lt hown5 hi).1)); have hs6 := B6.out.size))
            obtain ⟨q6, d6, rfl⟩ := own_slice hown6
            have O6 := Lib.hid hown6
            clear hown5 hg5 hown6 hg6
            go_wp2
            go_roundw
            case rel => exact ⟨k + 1, f + 2, true, out ++ [⟨ka, kb, kc⟩] ++ [⟨ka2, kb2, kc2⟩], by omega, by omega, by go_num, rfl, ⟨_, _, rfl⟩, Lib.hid (by have := HF.out; simp [this]), FF, Lib.hid (by
              rw [← flat_snoc, ← flat_snoc, HYC.out, HXC.out]
              exact O6.out), B6⟩
            case measure => simp [RowKit.intOf]; omega
          · have FF := Lib.hid (FN.out k _ out FR.out HY.out HA.out (by simpa using hg))
            have hg2 : decide (ka < ka2) = false := by simpa using hg
            clear hg
            go_wp2_with fail
            go_quiet (fail)
            have B4 := Lib.hid (below_drewN B3.out nq)
            have O4 := Lib.hid (own_turn O3.out (turn_drewN w3 (fun _ => False) nq) (fun _ _ hf => hf))
            obtain ⟨w4, hw4⟩ : ∃ w4, w3.drewN nq = w4 := ⟨_, rfl⟩
            rw [hw4] at B4 O4 ⊢
            clear hw4 m0 x0 x1 x2 e0 e1 e2 B3 O3 RO BR hg2
            have m0 : w4.cell? ⟨g, 1, none⟩ = some (.slice (some ⟨blk, 0, none⟩) n d0) := (FG.out w4 B4.out).2.1.cell 1
            have e0 : w4.cell? ⟨blk, k * 3, none⟩ = some (.int .i64 ka2) := FE1.out w4 B4.out 0 (by decide)
            have e1 : w4.cell? ⟨blk, k * 3 + 1, none⟩ = some (.int .i64 kb2) := FE1.out w4 B4.out 1 (by decide)
            have e2 : w4.cell? ⟨blk, k * 3 + 2, none⟩ = some (.int .i64 kc2) := FE1.out w4 B4.out 2 (by decide)
            have hs4 := B4.out.size
            go_wp2_with (at_builtin; refine wpList_append_own _ rfl _ _ 23 rfl w1.heap.size 36 i0 _ 3 24 Try.underlying23 hi hz0 hz1 hz2 rfl (by decide) _ _ _ rfl (O4.out.alloc _) ⟨w4.heap.size, 0, none⟩ 1 1 [.int .i64 ka2, .int .i64 kb2, .int .i64 kc2] rfl rfl (World.news_of_block (cs := #[.int .i64 ka2, .int .i64 kb2, .int .i64 kc2]) (t := 36) (fr := (0, 0)) (heap_alloc_new w4 _)) (by simp [Value.oneCell']) (by unfold maxLen; omega) (by omega) (by simp; omega) ?_; intro v5 w5 hown5 hg5 _; have B5 := Lib.hid ((B4.out.alloc hs4 (.cells #[.int .i64 ka2, .int .i64 kb2, .int .i64 kc2] 36)).grown hg5 (Nat.le_trans hs4 (size_alloc _ _)) (fun i hi => (own_lt O4.out hi).1)); have hs5 := B5.out.size)
            obtain ⟨q5, d5, rfl⟩ := own_slice hown5
            have O5 := Lib.hid hown5
            clear hown5 hg5
            go_wp2
            go_roundw
            case rel => exact ⟨k + 1, f + 1, false, out ++ [⟨ka2, kb2, kc2⟩], by omega, by omega, by go_num, rfl, ⟨_, _, rfl⟩, Lib.hid (by have := HF.out; simp [this]), FF, Lib.hid (by
              rw [← flat_snoc, HYC.out]
              exact O5.out), B5⟩
            case measure => simp [RowKit.intOf]; omega
    · obtain rfl : k = n := by omega
      have HE := Lib.hid (FZ.out done out FR.out)
      have mf : wr.frozen? ⟨g, 1, none⟩ = false := GR.2.1.frozen 1
      clear GR XR
      have hs := BR.out.size
      cases done with
      | true =>
        go_wp2
        go_ret
        rw [HE.out]
        exact FE.out w1 B1.out wr BR.out _ f out RO.out HF.out
      | false =>
        go_wp2_with (at_builtin; refine wpList_append_own _ rfl _ _ 23 rfl w1.heap.size 36 i0 _ 3 24 Try.underlying23 hi hz0 hz1 hz2 rfl (by decide) _ _ _ rfl (RO.out.alloc _) ⟨wr.heap.size, 0, none⟩ 1 1 [.int .i64 ka, .int .i64 kb, .int .i64 kc] rfl rfl (World.news_of_block (cs := #[.int .i64 ka, .int .i64 kb, .int .i64 kc]) (t := 36) (fr := (0, 0)) (heap_alloc_new wr _)) (by simp [Value.oneCell']) (by unfold maxLen; omega) (by omega) (by simp; omega) ?_; intro v5 w5 hown5 hg5 _; have B5 := Lib.hid ((BR.out.alloc hs (.cells #[.int .i64 ka, .int .i64 kb, .int .i64 kc] 36)).grown hg5 (Nat.le_trans hs (size_alloc _ _)) (fun i hi => (own_lt RO.out hi).1)); have hs5 := B5.out.size; have GF5 := (FG.out w5 B5.out).2.1.frozen 1; have GC5 := (FG.out w5 B5.out).2.1.cell 1; obtain ⟨q5, d5, rfl⟩ := own_slice hown5)
        have O5 := Lib.hid hown5
        clear hown5 hg5
        go_wp2
        go_ret
        rw [HE.out]
        exact FE.out w1 B1.out w5 B5.out _ (f + 1) (out ++ [⟨ka, kb, kc⟩]) (by rw [← flat_snoc, HXC.out]; exact O5.out) (by have := HF.out; simp [this])
end Ms
end Go.Proofs.Ytpceoklacpcfkaa
