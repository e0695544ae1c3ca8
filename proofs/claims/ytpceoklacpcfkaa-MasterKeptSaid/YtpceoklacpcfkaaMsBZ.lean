/- Walks over the document's answer of layer 10: one more (Zone). No condition but those written. -/
import Derived.Test.YtpceoklacpcfkaaMsP1
import Derived.Test.YtpceoklacpcfkaaMsRZ
import Derived.Test.YtpceoklacpcfkaaMsRM
import Derived.BigQuiet
import Derived.Deep.QuietTactic
namespace Go.Proofs.Ytpceoklacpcfkaa
open Go.RowKit

namespace Ms
/-- What a call leaves that adds. -/
def RAddZ (w : World) (B g : Nat) (vz vp : Value) (P : List Pd) (r : Nat × List Zn) (e : Ending) (w' : World) : Prop :=
  e = .returned (.int .i64 (r.1 : Nat)) ∧ ∃ v', RM w' B g v' vp r.2 P ∧ Turn (fun k => k = g) w w' ∧ (v' = vz ∨ ∀ b, v'.ownBlock = some b → w.heap.size ≤ b)
theorem raddZ_same {w w' : World} {B g n : Nat} {vz vp : Value} {Z : List Zn} {P : List Pd} (h : RM w B g vz vp Z P) (hb : Below w.heap.size w w') : RAddZ w B g vz vp P (n, Z) (.returned (.int .i64 (n : Nat))) w' :=
  ⟨rfl, vz, h.keep hb, Turn.of_below hb, .inl rfl⟩
theorem raddZ_end {w w1 wr : World} {B g f n : Nat} {vz vp v' : Value} {Z : List Zn} {P : List Pd} {out : List Zn} (h : RM w B g vz vp Z P) (hb : Below w.heap.size w w1) (hr : Below w1.heap.size w1 wr) (ho : wr.ownsRow w1.heap.size 33 6 v' f (out.flatMap zcells)) (hf : out.length = f) :
    RAddZ w B g vz vp P (n, out) (.returned (.int .i64 (n : Nat))) (wr.setCell ⟨g, 0, none⟩ v') := by
  subst hf
  have hbr := hb.trans (hr.mono hb.size)
  have h2 := h.keep hbr
  have hlt := h.2.1.lt
  have hT : Turn (fun k => k = g) wr (wr.setCell ⟨g, 0, none⟩ v') := (Turn.refl (fun k => k = g) wr).setCell (p := ⟨g, 0, none⟩) (.inl rfl) _
  have hs := hb.size
  refine ⟨rfl, v', ⟨h.1, by simpa using h2.2.1.set_ 0 v', own_turn (own_floor2 ho (Nat.le_trans h.1 (Nat.le_of_lt (Nat.lt_of_lt_of_le hlt hs)))) hT (fun k hk e => by have := (own_lt ho hk).1; omega), own_turn h2.2.2.2 hT (fun k hk e => own_blk_ne h2.2.2.2 h2.2.1 (by decide) (by rw [hk, e]))⟩, ((Turn.of_below (S := fun k => k = g) hbr).setCell (p := ⟨g, 0, none⟩) (.inl rfl) _), .inr fun b hbb => by have := (own_lt ho hbb).1; omega⟩
set_option maxRecDepth 100000 in
set_option maxHeartbeats 8000000 in
theorem raddZ_yes (B g : Nat) (vz vp : Value) (Z : List Zn) (P : List Pd) (x : Zn) (w : World) (h : RM w B g vz vp Z P) (hr : rightZ x = true) (hL : Z.length ≤ 1000000) :
    Calls Try.prog 8 #[.pointer (some ⟨g, 0, none⟩), zval x] w (RAddZ w B g vz vp P (addL Zn.id Z x)) := by
  obtain ⟨i0, hi, hz0, hz1, hz2⟩ := info_parts infoTZ
  have R := Lib.hid (fun W => rrightZ_any x W)
  rw [hr] at R
  have H := Lib.hid h
  have B0 := Lib.hid (alloc_below w (.cells #[.int .i64 x.id, .int .i64 x.worst, .int .i64 x.gap, .int .i64 x.room, .bool x.dock, .int .i64 x.ajar] 33))
  have X0 := Lib.hid (Lies.new w 33 #[.int .i64 x.id, .int .i64 x.worst, .int .i64 x.gap, .int .i64 x.room, .bool x.dock, .int .i64 x.ajar])
  clear hr
  obtain ⟨q0, d0, hv⟩ := own_slice h.2.2.1
  subst hv
  clear h
  obtain ⟨n, hn⟩ : ∃ n, Z.length = n := ⟨_, rfl⟩
  have HN := Lib.hid hn
  have HXC : Hid (zcells x = [.int .i64 x.id, .int .i64 x.worst, .int .i64 x.gap, .int .i64 x.room, .bool x.dock, .int .i64 x.ajar]) := Lib.hid rfl
  have FS := Lib.hid (fun (W : World) (hW : Below w.heap.size w W) => raddZ_same (n := 6) H.out hW)
  have FE := Lib.hid (fun (w1 : World) (h1 : Below w.heap.size w w1) (wr : World) (h2 : Below w1.heap.size w1 wr) (v' : Value) (f : Nat) (out : List Zn) (h3 : wr.ownsRow w1.heap.size 33 6 v' f (out.flatMap zcells)) (h4 : out.length = f) => raddZ_end (n := 0) H.out h1 h2 h3 h4)
  rw [hn] at hL
  have hL' : (n : Int) ≤ 1000000 := by omega
  have FA := Lib.hid (fun (k : Nat) (y : Zn) (hy : Z[k]? = some y) (he : y.id = x.id) (done : Bool) (out : List Zn) (hf : Far (key := Zn.id) x Z k done out) => far_twice hf hy he)
  have FD := Lib.hid (fun (k : Nat) (y : Zn) (out : List Zn) (hf : Far (key := Zn.id) x Z k true out) (hy : Z[k]? = some y) (he : y.id ≠ x.id) => far_done hf hy he)
  have FH := Lib.hid (fun (k : Nat) (y : Zn) (out : List Zn) (hf : Far (key := Zn.id) x Z k false out) (hy : Z[k]? = some y) (he : x.id < y.id) => far_here hf hy he)
  have FN := Lib.hid (fun (k : Nat) (y : Zn) (out : List Zn) (hf : Far (key := Zn.id) x Z k false out) (hy : Z[k]? = some y) (he : y.id ≠ x.id) (h2 : ¬ x.id < y.id) => far_not hf hy he h2)
  have F0 := Lib.hid (far_start (key := Zn.id) x Z)
  have FZ := Lib.hid (fun (done : Bool) (out : List Zn) (hf : Far (key := Zn.id) x Z n done out) => far_end (hn ▸ hf))
  rw [hn] at H
  clear hn
  obtain ⟨ka, kb, kc, kd, ke, kf⟩ := x
  unfold zval
  simp only at R B0 X0 HXC FA FD FH FN ⊢
  go_enter Try.func8, Try.ntmps8
  go_wp2_with fail
  refine (R.out _).mono ?_
  rintro e w1 ⟨rfl, hb⟩
  have B1 := Lib.hid (B0.out.trans (hb.mono B0.out.size))
  have X1 := Lib.hid (X0.out.below hb X0.out.lt)
  have FG := Lib.hid (fun (W : World) (hW : Below w1.heap.size w1 W) => ((H.out.keep B1.out).keep hW))
  have FX := Lib.hid (fun (W : World) (hW : Below w1.heap.size w1 W) => X1.out.below hW X1.out.lt)
  clear hb B0 X0 R H
  go_wp2_with fail
  go_loopw [6, 7, 8] (fun v dn i wr => ∃ (k f : Nat) (done : Bool) (out : List Zn), k ≤ n ∧ f ≤ k + 1 ∧ i = .int .i64 k ∧ dn = .bool done ∧ (∃ q d, v = .slice q f d) ∧ Hid (out.length = f) ∧ Hid (Far (key := Zn.id) ⟨ka, kb, kc, kd, ke, kf⟩ Z k done out) ∧ Hid (wr.ownsRow w1.heap.size 33 6 v f (out.flatMap zcells)) ∧ Hid (Below w1.heap.size w1 wr)) (fun _ _ i _ => n - (RowKit.intOf i).toNat)
  case atStart => exact ⟨0, 0, false, [], Nat.zero_le _, Nat.zero_le _, rfl, rfl, ⟨none, 0, rfl⟩, Lib.hid rfl, F0, Lib.hid (World.ownsRow_nil _ _ _ _), Lib.hid (Below.refl _ _)⟩
  case round =>
    obtain ⟨k, f, done, out, hk, hf, rfl, rfl, ⟨q, d, rfl⟩, HF, FR, RO, BR⟩ := hrel
    have GR := FG.out wr BR.out
    have XR := FX.out wr BR.out
    have m0 : wr.cell? ⟨g, 0, none⟩ = some (.slice q0 n d0) := GR.2.1.cell 0
    have x0 : wr.cell? ⟨w.heap.size, 0, none⟩ = some (.int .i64 ka) := XR.cell 0
    have x1 : wr.cell? ⟨w.heap.size, 1, none⟩ = some (.int .i64 kb) := XR.cell 1
    have x2 : wr.cell? ⟨w.heap.size, 2, none⟩ = some (.int .i64 kc) := XR.cell 2
    have x3 : wr.cell? ⟨w.heap.size, 3, none⟩ = some (.int .i64 kd) := XR.cell 3
    have x4 : wr.cell? ⟨w.heap.size, 4, none⟩ = some (.bool ke) := XR.cell 4
    have x5 : wr.cell? ⟨w.heap.size, 5, none⟩ = some (.int .i64 kf) := XR.cell 5
    by_cases hlt : k < n
    · have hk3 : (k : Int) < (n : Int) := by omega
      obtain ⟨y, hy⟩ : ∃ y, Z[k]? = some y := ⟨_, List.getElem?_eq_getElem (by rw [HN.out]; exact hlt)⟩
      obtain ⟨blk, cc, e, hb1, hb2, hncc⟩ := own_some GR.2.2.1 (by rw [HN.out]; omega)
      rw [HN.out] at e
      have FE1 := Lib.hid (fun (W : World) (hW : Below w1.heap.size w1 W) i (hi : i < 6) => by
        have o2 := (FG.out W hW).2.2.1
        rw [e, HN.out] at o2
        exact row_cell zcells_len o2 HN.out hy hi)
      cases e
      have HY := Lib.hid hy
      have HYC : Hid (zcells y = [.int .i64 y.id, .int .i64 y.worst, .int .i64 y.gap, .int .i64 y.room, .bool y.dock, .int .i64 y.ajar]) := Lib.hid rfl
      clear hy hb1 hb2 GR XR
      have FA := Lib.hid (fun he => FA.out k y HY.out he done out FR.out)
      have hF0 := HF.out
      obtain ⟨ka2, kb2, kc2, kd2, ke2, kf2⟩ := y
      simp only at HYC FA
      have e0 : wr.cell? ⟨blk, k * 6, none⟩ = some (.int .i64 ka2) := FE1.out wr BR.out 0 (by decide)
      have e1 : wr.cell? ⟨blk, k * 6 + 1, none⟩ = some (.int .i64 kb2) := FE1.out wr BR.out 1 (by decide)
      have e2 : wr.cell? ⟨blk, k * 6 + 2, none⟩ = some (.int .i64 kc2) := FE1.out wr BR.out 2 (by decide)
      have e3 : wr.cell? ⟨blk, k * 6 + 3, none⟩ = some (.int .i64 kd2) := FE1.out wr BR.out 3 (by decide)
      have e4 : wr.cell? ⟨blk, k * 6 + 4, none⟩ = some (.bool ke2) := FE1.out wr BR.out 4 (by decide)
      have e5 : wr.cell? ⟨blk, k * 6 + 5, none⟩ = some (.int .i64 kf2) := FE1.out wr BR.out 5 (by decide)
      clear hF0
      by_cases ha : ka2 = ka
      · subst ha
        have HE := Lib.hid (FA.out rfl)
        go_wp2_with fail
        go_quiet (fail)
        go_wp2
        go_ret
        rw [HE.out]
        have := FS.out (wr.drewN nq) (B1.out.trans ((below_drewN BR.out nq).mono B1.out.size))
        exact ⟨rfl, this.2⟩
      · have ha2 : (ka2 == ka) = false := by simp [ha]
        have HA := Lib.hid ha
        clear ha FA
        go_wp2_with fail
        go_quiet (fail)
        have B3 := Lib.hid (below_drewN BR.out nq)
        have O3 := Lib.hid (own_turn RO.out (turn_drewN wr (fun _ => False) nq) (fun _ _ hf => hf))
        obtain ⟨w3, hw3⟩ : ∃ w3, wr.drewN nq = w3 := ⟨_, rfl⟩
        rw [hw3] at B3 O3 ⊢
        clear hw3 m0 x0 x1 x2 x3 x4 x5 e0 e1 e2 e3 e4 e5 ha2
        have m0 : w3.cell? ⟨g, 0, none⟩ = some (.slice (some ⟨blk, 0, none⟩) n d0) := (FG.out w3 B3.out).2.1.cell 0
        have x0 : w3.cell? ⟨w.heap.size, 0, none⟩ = some (.int .i64 ka) := (FX.out w3 B3.out).cell 0
        have x1 : w3.cell? ⟨w.heap.size, 1, none⟩ = some (.int .i64 kb) := (FX.out w3 B3.out).cell 1
        have x2 : w3.cell? ⟨w.heap.size, 2, none⟩ = some (.int .i64 kc) := (FX.out w3 B3.out).cell 2
        have x3 : w3.cell? ⟨w.heap.size, 3, none⟩ = some (.int .i64 kd) := (FX.out w3 B3.out).cell 3
        have x4 : w3.cell? ⟨w.heap.size, 4, none⟩ = some (.bool ke) := (FX.out w3 B3.out).cell 4
        have x5 : w3.cell? ⟨w.heap.size, 5, none⟩ = some (.int .i64 kf) := (FX.out w3 B3.out).cell 5
        have e0 : w3.cell? ⟨blk, k * 6, none⟩ = some (.int .i64 ka2) := FE1.out w3 B3.out 0 (by decide)
        have e1 : w3.cell? ⟨blk, k * 6 + 1, none⟩ = some (.int .i64 kb2) := FE1.out w3 B3.out 1 (by decide)
        have e2 : w3.cell? ⟨blk, k * 6 + 2, none⟩ = some (.int .i64 kc2) := FE1.out w3 B3.out 2 (by decide)
        have e3 : w3.cell? ⟨blk, k * 6 + 3, none⟩ = some (.int .i64 kd2) := FE1.out w3 B3.out 3 (by decide)
        have e4 : w3.cell? ⟨blk, k * 6 + 4, none⟩ = some (.bool ke2) := FE1.out w3 B3.out 4 (by decide)
        have e5 : w3.cell? ⟨blk, k * 6 + 5, none⟩ = some (.int .i64 kf2) := FE1.out w3 B3.out 5 (by decide)
        cases done with
        | true =>
          have FF := Lib.hid (FD.out k _ out FR.out HY.out HA.out)
          go_wp2_with fail
          go_quiet (fail)
          have B4 := Lib.hid (below_drewN B3.out nq)
          have O4 := Lib.hid (own_turn O3.out (turn_drewN w3 (fun _ => False) nq) (fun _ _ hf => hf))
          obtain ⟨w4, hw4⟩ : ∃ w4, w3.drewN nq = w4 := ⟨_, rfl⟩
          rw [hw4] at B4 O4 ⊢
          clear hw4 m0 x0 x1 x2 x3 x4 x5 e0 e1 e2 e3 e4 e5 B3 O3 RO BR
          have m0 : w4.cell? ⟨g, 0, none⟩ = some (.slice (some ⟨blk, 0, none⟩) n d0) := (FG.out w4 B4.out).2.1.cell 0
          have e0 : w4.cell? ⟨blk, k * 6, none⟩ = some (.int .i64 ka2) := FE1.out w4 B4.out 0 (by decide)
          have e1 : w4.cell? ⟨blk, k * 6 + 1, none⟩ = some (.int .i64 kb2) := FE1.out w4 B4.out 1 (by decide)
          have e2 : w4.cell? ⟨blk, k * 6 + 2, none⟩ = some (.int .i64 kc2) := FE1.out w4 B4.out 2 (by decide)
          have e3 : w4.cell? ⟨blk, k * 6 + 3, none⟩ = some (.int .i64 kd2) := FE1.out w4 B4.out 3 (by decide)
          have e4 : w4.cell? ⟨blk, k * 6 + 4, none⟩ = some (.bool ke2) := FE1.out w4 B4.out 4 (by decide)
          have e5 : w4.cell? ⟨blk, k * 6 + 5, none⟩ = some (.int .i64 kf2) := FE1.out w4 B4.out 5 (by decide)
          have hs4 := B4.out.size
          go_wp2_with (at_builtin; refine wpList_append_own _ rfl _ _ 22 rfl w1.heap.size 33 i0 _ 6 48 Try.underlying22 hi hz0 hz1 hz2 rfl (by decide) _ _ _ rfl (O4.out.alloc _) ⟨w4.heap.size, 0, none⟩ 1 1 [.int .i64 ka2, .int .i64 kb2, .int .i64 kc2, .int .i64 kd2, .bool ke2, .int .i64 kf2] rfl rfl (World.news_of_block (cs := #[.int .i64 ka2, .int .i64 kb2, .int .i64 kc2, .int .i64 kd2, .bool ke2, .int .i64 kf2]) (t := 33) (fr := (0, 0)) (heap_alloc_new w4 _)) (by simp [Value.oneCell']) (by unfold maxLen; omega) (by omega) (by simp; omega) ?_; intro v5 w5 hown5 hg5 _; have B5 := Lib.hid ((B4.out.alloc hs4 (.cells #[.int .i64 ka2, .int .i64 kb2, .int .i64 kc2, .int .i64 kd2, .bool ke2, .int .i64 kf2] 33)).grown hg5 (Nat.le_trans hs4 (size_alloc _ _)) (fun i hi => (own_lt O4.out hi).1)); have hs5 := B5.out.size)
          obtain ⟨q5, d5, rfl⟩ := own_slice hown5
          have O5 := Lib.hid hown5
          clear hown5 hg5
          go_wp2
          go_roundw
          case rel => exact ⟨k + 1, f + 1, true, out ++ [⟨ka2, kb2, kc2, kd2, ke2, kf2⟩], by omega, by omega, by go_num, rfl, ⟨_, _, rfl⟩, Lib.hid (by have := HF.out; simp [this]), FF, Lib.hid (by
            rw [← flat_snoc, HYC.out]
            exact O5.out), B5⟩
          case measure => simp [RowKit.intOf]; omega
        | false =>
          by_cases hg : ka < ka2
          · have hF1 := far_len0 FR.out
            rw [HF.out] at hF1
            have FF := Lib.hid (FH.out k _ out FR.out HY.out hg)
            go_wp2_with fail
            go_quiet (fail)
            have B4 := Lib.hid (below_drewN B3.out nq)
            have O4 := Lib.hid (own_turn O3.out (turn_drewN w3 (fun _ => False) nq) (fun _ _ hf => hf))
            obtain ⟨w4, hw4⟩ : ∃ w4, w3.drewN nq = w4 := ⟨_, rfl⟩
            rw [hw4] at B4 O4 ⊢
            clear hw4 m0 x0 x1 x2 x3 x4 x5 e0 e1 e2 e3 e4 e5 B3 O3 RO BR hg
            have x0 : w4.cell? ⟨w.heap.size, 0, none⟩ = some (.int .i64 ka) := (FX.out w4 B4.out).cell 0
            have x1 : w4.cell? ⟨w.heap.size, 1, none⟩ = some (.int .i64 kb) := (FX.out w4 B4.out).cell 1
            have x2 : w4.cell? ⟨w.heap.size, 2, none⟩ = some (.int .i64 kc) := (FX.out w4 B4.out).cell 2
            have x3 : w4.cell? ⟨w.heap.size, 3, none⟩ = some (.int .i64 kd) := (FX.out w4 B4.out).cell 3
            have x4 : w4.cell? ⟨w.heap.size, 4, none⟩ = some (.bool ke) := (FX.out w4 B4.out).cell 4
            have x5 : w4.cell? ⟨w.heap.size, 5, none⟩ = some (.int .i64 kf) := (FX.out w4 B4.out).cell 5
            have hs4 := B4.out.size
            go_wp2_with (first | (at_builtin; refine wpList_append_own _ rfl _ _ 22 rfl w1.heap.size 33 i0 _ 6 48 Try.underlying22 hi hz0 hz1 hz2 rfl (by decide) _ _ _ rfl (O4.out.alloc _) ⟨w4.heap.size, 0, none⟩ 1 1 [.int .i64 ka, .int .i64 kb, .int .i64 kc, .int .i64 kd, .bool ke, .int .i64 kf] rfl rfl (World.news_of_block (cs := #[.int .i64 ka, .int .i64 kb, .int .i64 kc, .int .i64 kd, .bool ke, .int .i64 kf]) (t := 33) (fr := (0, 0)) (heap_alloc_new w4 _)) (by simp [Value.oneCell']) (by unfold maxLen; omega) (by omega) (by simp; omega) ?_; intro v5 w5 hown5 hg5 _; have B5 := Lib.hid ((B4.out.alloc hs4 (.cells #[.int .i64 ka, .int .i64 kb, .int .i64 kc, .int .i64 kd, .bool ke, .int .i64 kf] 33)).grown hg5 (Nat.le_trans hs4 (size_alloc _ _)) (fun i hi => (own_lt O4.out hi).1)); have hs5 := B5.out.size; have m5 : w5.cell? ⟨g, 0, none⟩ = some (.slice (some ⟨blk, 0, none⟩) n d0) := (FG.out w5 B5.out).2.1.cell 0; have y0 : w5.cell? ⟨blk, k * 6, none⟩ = some (.int .i64 ka2) := FE1.out w5 B5.out 0 (by decide); have y1 : w5.cell? ⟨blk, k * 6 + 1, none⟩ = some (.int .i64 kb2) := FE1.out w5 B5.out 1 (by decide); have y2 : w5.cell? ⟨blk, k * 6 + 2, none⟩ = some (.int .i64 kc2) := FE1.out w5 B5.out 2 (by decide); have y3 : w5.cell? ⟨blk, k * 6 + 3, none⟩ = some (.int .i64 kd2) := FE1.out w5 B5.out 3 (by decide); have y4 : w5.cell? ⟨blk, k * 6 + 4, none⟩ = some (.bool ke2) := FE1.out w5 B5.out 4 (by decide); have y5 : w5.cell? ⟨blk, k * 6 + 5, none⟩ = some (.int .i64 kf2) := FE1.out w5 B5.out 5 (by decide)) | (at_builtin; refine wpList_append_own _ rfl _ _ 22 rfl w1.heap.size 33 i0 _ 6 48 Try.underlying22 hi hz0 hz1 hz2 rfl (by decide) _ _ _ rfl (hown5.alloc _) ⟨w5.heap.size, 0, none⟩ 1 1 [.int .i64 ka2, .int .i64 kb2, .int .i64 kc2, .int .i64 kd2, .bool ke2, .int .i64 kf2] rfl rfl (World.news_of_block (cs := #[.int .i64 ka2, .int .i64 kb2, .int .i64 kc2, .int .i64 kd2, .bool ke2, .int .i64 kf2]) (t := 33) (fr := (0, 0)) (heap_alloc_new w5 _)) (by simp [Value.oneCell']) (by unfold maxLen; omega) (by omega) (by simp; omega) ?_; intro v6 w6 hown6 hg6 _; have B6 := Lib.hid ((B5.out.alloc hs5 (.cells #[.int .i64 ka2, .int .i64 kb2, .int .i64 kc2, .int .i64 kd2, .bool ke2, .int .i64 kf2] 33)).grown hg6 (Nat.le_trans hs5 (size_alloc _ _)) (fun i hi => (own_lt hown5 hi).1)); have hs6 := B6.out.size))
            obtain ⟨q6, d6, rfl⟩ := own_slice hown6
            have O6 := Lib.hid hown6
            clear hown5 hg5 hown6 hg6
            go_wp2
            go_roundw
            case rel => exact ⟨k + 1, f + 2, true, out ++ [⟨ka, kb, kc, kd, ke, kf⟩] ++ [⟨ka2, kb2, kc2, kd2, ke2, kf2⟩], by omega, by omega, by go_num, rfl, ⟨_, _, rfl⟩, Lib.hid (by have := HF.out; simp [this]), FF, Lib.hid (by
              rw [← flat_snoc, ← flat_snoc, HYC.out, HXC.out]
              exact O6.out), B6⟩
            case measure => simp [RowKit.intOf]; omega
          · have FF := Lib.hid (FN.out k _ out FR.out HY.out HA.out (by simpa using hg))
            have hg2 : decide (ka < ka2) = false := by simpa using hg
            clear hg
            go_wp2_with fail
            go_quiet (fail)
            have B4 := Lib.hid (below_drewN B3.out nq)
            have O4 := Lib.hid (own_turn O3.out (turn_drewN w3 (fun _ => False) nq) (fun _ _ hf => hf))
            obtain ⟨w4, hw4⟩ : ∃ w4, w3.drewN nq = w4 := ⟨_, rfl⟩
            rw [hw4] at B4 O4 ⊢
            clear hw4 m0 x0 x1 x2 x3 x4 x5 e0 e1 e2 e3 e4 e5 B3 O3 RO BR hg2
            have m0 : w4.cell? ⟨g, 0, none⟩ = some (.slice (some ⟨blk, 0, none⟩) n d0) := (FG.out w4 B4.out).2.1.cell 0
            have e0 : w4.cell? ⟨blk, k * 6, none⟩ = some (.int .i64 ka2) := FE1.out w4 B4.out 0 (by decide)
            have e1 : w4.cell? ⟨blk, k * 6 + 1, none⟩ = some (.int .i64 kb2) := FE1.out w4 B4.out 1 (by decide)
            have e2 : w4.cell? ⟨blk, k * 6 + 2, none⟩ = some (.int .i64 kc2) := FE1.out w4 B4.out 2 (by decide)
            have e3 : w4.cell? ⟨blk, k * 6 + 3, none⟩ = some (.int .i64 kd2) := FE1.out w4 B4.out 3 (by decide)
            have e4 : w4.cell? ⟨blk, k * 6 + 4, none⟩ = some (.bool ke2) := FE1.out w4 B4.out 4 (by decide)
            have e5 : w4.cell? ⟨blk, k * 6 + 5, none⟩ = some (.int .i64 kf2) := FE1.out w4 B4.out 5 (by decide)
            have hs4 := B4.out.size
            go_wp2_with (at_builtin; refine wpList_append_own _ rfl _ _ 22 rfl w1.heap.size 33 i0 _ 6 48 Try.underlying22 hi hz0 hz1 hz2 rfl (by decide) _ _ _ rfl (O4.out.alloc _) ⟨w4.heap.size, 0, none⟩ 1 1 [.int .i64 ka2, .int .i64 kb2, .int .i64 kc2, .int .i64 kd2, .bool ke2, .int .i64 kf2] rfl rfl (World.news_of_block (cs := #[.int .i64 ka2, .int .i64 kb2, .int .i64 kc2, .int .i64 kd2, .bool ke2, .int .i64 kf2]) (t := 33) (fr := (0, 0)) (heap_alloc_new w4 _)) (by simp [Value.oneCell']) (by unfold maxLen; omega) (by omega) (by simp; omega) ?_; intro v5 w5 hown5 hg5 _; have B5 := Lib.hid ((B4.out.alloc hs4 (.cells #[.int .i64 ka2, .int .i64 kb2, .int .i64 kc2, .int .i64 kd2, .bool ke2, .int .i64 kf2] 33)).grown hg5 (Nat.le_trans hs4 (size_alloc _ _)) (fun i hi => (own_lt O4.out hi).1)); have hs5 := B5.out.size)
            obtain ⟨q5, d5, rfl⟩ := own_slice hown5
            have O5 := Lib.hid hown5
            clear hown5 hg5
            go_wp2
            go_roundw
            case rel => exact ⟨k + 1, f + 1, false, out ++ [⟨ka2, kb2, kc2, kd2, ke2, kf2⟩], by omega, by omega, by go_num, rfl, ⟨_, _, rfl⟩, Lib.hid (by have := HF.out; simp [this]), FF, Lib.hid (by
              rw [← flat_snoc, HYC.out]
              exact O5.out), B5⟩
            case measure => simp [RowKit.intOf]; omega
    · obtain rfl : k = n := by omega
      have HE := Lib.hid (FZ.out done out FR.out)
      have mf : wr.frozen? ⟨g, 0, none⟩ = false := GR.2.1.frozen 0
      clear GR XR
      have hs := BR.out.size
      cases done with
      | true =>
        go_wp2
        go_ret
        rw [HE.out]
        exact FE.out w1 B1.out wr BR.out _ f out RO.out HF.out
      | false =>
        go_wp2_with (at_builtin; refine wpList_append_own _ rfl _ _ 22 rfl w1.heap.size 33 i0 _ 6 48 Try.underlying22 hi hz0 hz1 hz2 rfl (by decide) _ _ _ rfl (RO.out.alloc _) ⟨wr.heap.size, 0, none⟩ 1 1 [.int .i64 ka, .int .i64 kb, .int .i64 kc, .int .i64 kd, .bool ke, .int .i64 kf] rfl rfl (World.news_of_block (cs := #[.int .i64 ka, .int .i64 kb, .int .i64 kc, .int .i64 kd, .bool ke, .int .i64 kf]) (t := 33) (fr := (0, 0)) (heap_alloc_new wr _)) (by simp [Value.oneCell']) (by unfold maxLen; omega) (by omega) (by simp; omega) ?_; intro v5 w5 hown5 hg5 _; have B5 := Lib.hid ((BR.out.alloc hs (.cells #[.int .i64 ka, .int .i64 kb, .int .i64 kc, .int .i64 kd, .bool ke, .int .i64 kf] 33)).grown hg5 (Nat.le_trans hs (size_alloc _ _)) (fun i hi => (own_lt RO.out hi).1)); have hs5 := B5.out.size; have GF5 := (FG.out w5 B5.out).2.1.frozen 0; have GC5 := (FG.out w5 B5.out).2.1.cell 0; obtain ⟨q5, d5, rfl⟩ := own_slice hown5)
        have O5 := Lib.hid hown5
        clear hown5 hg5
        go_wp2
        go_ret
        rw [HE.out]
        exact FE.out w1 B1.out w5 B5.out _ (f + 1) (out ++ [⟨ka, kb, kc, kd, ke, kf⟩]) (by rw [← flat_snoc, HXC.out]; exact O5.out) (by have := HF.out; simp [this])
end Ms
end Go.Proofs.Ytpceoklacpcfkaa
