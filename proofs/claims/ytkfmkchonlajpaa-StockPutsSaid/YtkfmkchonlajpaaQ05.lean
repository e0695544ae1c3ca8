/- Walks over the document's answer of layer 12: Put. No condition but those written. Walks over package master's table of Products: the one of a number. No condition but those written. Walks over the document's answer of layer 10: the one of a number (Product); whether two lists are one. No condition but those written. Walks over the document's answer of layer 12: a lot comes. No condition but those written. Walks over the document's answer of layer 12: a lot comes. No condition but those written. Package master and stock, the document's master and stock: four things side by side. Condition: the contracts of packages master and stock. An act of layer 12's law. Condition: the contracts of packages master and stock. The live question of layer 10's laws: it returns true. Condition: the contracts of package master. The live question of layer 12's laws: it returns true. Condition: the contracts of packages master and stock. Walks over the document's answer of layer 10: one more (Zone). No condition but those written. Walks over the document's answer of layer 10: one more (Product). No condition but those written. The document's answer of layer 10: one more, whole. No condition but those written. MasterTells' walk. Condition: the contracts of package master. Layer 12's masters: package master's, and the document's one. Condition: the contracts of package master. A package stock and the document's one that hold the same: what can be asked of both. Condition: the contracts of package stock. -/
import Derived.Test.YtkfmkchonlajpaaQ04
import Derived.BigQuiet
import Derived.Deep.QuietTactic
import Derived.Deep.RegionLaw
import Derived.Deep.AppendLies
import Derived.BigRegion
import Derived.Deep.CutRange
import Derived.Test.YtkfmkchonlajpaaQ03
import Derived.WalkMore
import Derived.Deep.RegionHeld3
namespace Go.Proofs.Ytkfmkchonlajpaa
open Go.RowKit Go.Maps

namespace Lo
theorem put_bad {s : Stk} {x : Lt} (h : ¬ (s.2 < x.id ∧ x.id ≤ 256 ∧ 1 ≤ x.units ∧ x.units ≤ 1048576 ∧ 0 ≤ x.status ∧ x.status ≤ 4 ∧ Sy.Right x.stays ∧ 0 ≤ x.product ∧ 0 ≤ x.expiry ∧ 0 ≤ x.grant ∧ 0 ≤ x.order)) : putS s x = (1, s) := by
  unfold putS putOk
  rw [if_neg (by simpa using h)]
theorem put_ok {s : Stk} {x : Lt} (h : s.2 < x.id ∧ x.id ≤ 256 ∧ 1 ≤ x.units ∧ x.units ≤ 1048576 ∧ 0 ≤ x.status ∧ x.status ≤ 4 ∧ Sy.Right x.stays ∧ 0 ≤ x.product ∧ 0 ≤ x.expiry ∧ 0 ≤ x.grant ∧ 0 ≤ x.order) : putS s x = (0, (s.1 ++ [x], x.id)) := by
  unfold putS putOk
  rw [if_pos (by simpa using h)]
theorem ract2_more {w w' : World} {B g : Nat} {v : Value} {K0 K : Nat → Prop} {s : Stk} (h : RAc2 w B g v K0 s w') (hk : ∀ k, K0 k → K k) : RAc2 w B g v K s w' := by
  obtain ⟨l', h1, v', h2, h3, h4, h5⟩ := h
  exact ⟨l', h1, v', h2, h3, h4, fun k hk' => (h5 k hk').imp (hk k) id⟩
theorem put_end {w w3 w2 : World} {B g gg cap n d : Nat} {given : Int} {l : List Lv} {y : Lv} {q : Option Addr} {ob : Obj} (hb : Turn (RFoot g (.slice q n d)) w w3) (h : RS w3 B g (.slice q n d) given l) (hn : l.length = n)
    (hown : w2.ownsRow B 32 8 (.slice (some ⟨gg, 0, none⟩) (n + 1) cap) (n + 1) (l.flatMap lcells ++ lcells y))
    (hg : (w3.alloc ob).drew.grownBy w2 (Value.slice q n d).ownBlock) (hat : (Value.slice q n d).ownBlock = some gg ∨ gg = w3.heap.size + 1)
    (fb : Lies w2 g 28 #[.slice q n d, .int .i64 given]) (hy : St w3 y) (hk : ∀ k, Bk y k → k ≠ g ∧ (Value.slice q n d).ownBlock ≠ some k) :
    RAc2 w B g (.slice q n d) (fun k => Bks l k ∨ Bk y k) (lts l ++ [y.x], given) (w2.setCell ⟨g, 0, none⟩ (.slice (some ⟨gg, 0, none⟩) (n + 1) cap)) := by
  have T1 : Turn (fun k => (Value.slice q n d).ownBlock = some k) w3 w2 := (((Turn.refl _ w3).alloc ob).drew).grown hg (fun k hk => .inl hk)
  have R := rs_app2 (y := y) (gg := gg) (cap := cap) hb h (by rw [hn]; exact hown) T1 (hat.imp id (fun e => by omega)) fb (hy.turn T1 (fun k hk' e => (hk k hk').2 e)) (fun k hk' => ⟨(hk k hk').1, fun e => by
    rcases hat with hat | hat
    · exact (hk k hk').2 (by rw [hat, e])
    · have := hy.lt hk'
      omega⟩) (K := fun k => Bks l k ∨ Bk y k) (fun k hk' => .inl hk') (fun k hk' => .inl (.inr hk'))
  rw [hn] at R
  exact ⟨_, by rw [lts, List.map_append]; rfl, R⟩
set_option maxRecDepth 100000 in
set_option maxHeartbeats 16000000 in
theorem rput_any (B g : Nat) (v : Value) (given : Int) (l : List Lv) (y : Lv) (w : World) (h : RS w B g v given l) (hL : l.length ≤ 1000000) (hy : St w y) (hyn : y.n ≤ 1000000) (hk : ∀ k, Bk y k → k ≠ g ∧ v.ownBlock ≠ some k) :
    Calls Try.prog 7 #[.pointer (some ⟨g, 0, none⟩), lval y] w fun e w' => e = .returned (.int .i64 ((putS (lts l, given) y.x).1 : Nat)) ∧ RAc2 w B g v (fun k => Bks l k ∨ Bk y k) (putS (lts l, given) y.x).2 w' := by
  obtain ⟨i0, hi0', hz0, hz1, hz2⟩ := info_parts infoL9
  have HE := Lib.hid (fun W (hW : Below w.heap.size w W) => ract2_more (K := fun k => Bks l k ∨ Bk y k) (ract2_same h hW) (fun k hk => .inl hk))
  have HR1 := Lib.hid (put_bad (s := (lts l, given)) (x := y.x))
  have HR2 := Lib.hid (put_ok (s := (lts l, given)) (x := y.x))
  generalize putS (lts l, given) y.x = r at *
  obtain ⟨q0, d0, rfl⟩ := rs_slice h
  obtain ⟨n, hn⟩ : ∃ n, l.length = n := ⟨_, rfl⟩
  rw [hn] at hL h HE
  have HN := Lib.hid hn
  have HKY := Lib.hid (by rw [hn] at hk; exact hk)
  have HK := Lib.hid (fun w1 (hb : Below w.heap.size w w1) => h.keep hb)
  have HY := Lib.hid (fun w1 (hb : Below w.heap.size w w1) => hy.keep hb)
  have CR := Lib.hid (fun W (hW : Below w.heap.size w W) => Sy.r9right_any y.p y.n y.c y.x.stays W ((hy.keep hW).1) hyn)
  have hL' : (n : Int) ≤ 1000000 := by omega
  have LTG := Lib.hid h.blk.lt
  clear hn hy hk hyn h
  obtain ⟨⟨i1, i2, i3, i4, i5, i6, i7, S⟩, p, pn, pc⟩ := y
  unfold lval
  simp only at CR HR1 HR2
  obtain ⟨rb, hrb⟩ : ∃ rb, Sy.rightB S = rb := ⟨_, rfl⟩
  have HB1 : Hid (rb = true → Sy.Right S) := Lib.hid (fun e => Sy.right_B.1 (by rw [hrb]; exact e))
  have HB2 : Hid (Sy.Right S → rb = true) := Lib.hid (fun e => by rw [← hrb]; exact Sy.right_yes e)
  rw [hrb] at CR
  clear hrb
  go_enter Try.func7, Try.ntmps7
  go_wp2_with fail
  have B0 := Lib.hid (alloc_below w (.cells #[.int .i64 i1, .int .i64 i2, .int .i64 i3, .int .i64 i4, .int .i64 i5, .int .i64 i6, .int .i64 i7, .slice p pn pc] 32))
  have X0 := Lib.hid (Lies.new w 32 #[.int .i64 i1, .int .i64 i2, .int .i64 i3, .int .i64 i4, .int .i64 i5, .int .i64 i6, .int .i64 i7, .slice p pn pc])
  refine (CR.out _ B0.out).mono ?_
  rintro e w1 ⟨rfl, hb⟩
  have B1 := Lib.hid (B0.out.trans (hb.mono B0.out.size))
  have X1 := Lib.hid (X0.out.below hb X0.out.lt)
  clear hb CR B0 X0
  have m1 : w1.cell? ⟨g, 1, none⟩ = some (.int .i64 given) := (HK.out _ B1.out).blk.cell 1
  have x0 : w1.cell? ⟨w.heap.size, 0, none⟩ = some (.int .i64 i1) := X1.out.cell 0
  have x1 : w1.cell? ⟨w.heap.size, 1, none⟩ = some (.int .i64 i2) := X1.out.cell 1
  have x2 : w1.cell? ⟨w.heap.size, 2, none⟩ = some (.int .i64 i3) := X1.out.cell 2
  have x3 : w1.cell? ⟨w.heap.size, 3, none⟩ = some (.int .i64 i4) := X1.out.cell 3
  have x4 : w1.cell? ⟨w.heap.size, 4, none⟩ = some (.int .i64 i5) := X1.out.cell 4
  have x5 : w1.cell? ⟨w.heap.size, 5, none⟩ = some (.int .i64 i6) := X1.out.cell 5
  have x6 : w1.cell? ⟨w.heap.size, 6, none⟩ = some (.int .i64 i7) := X1.out.cell 6
  by_cases g0 : i1 ≤ given
  · have HV := Lib.hid (HR1.out (fun hh => by obtain ⟨h1, h2, h3, h4, h5, h6, h7, h8, h9, h10, h11⟩ := hh; omega))
    clear HR1 HR2 HB1 HB2
    go_wp2_with fail
    go_quiet (fail)
    go_wp2
    go_ret
    exact ⟨by rw [HV.out]; rfl, by rw [HV.out, HN.out]; exact HE.out _ (below_drewN B1.out _)⟩
  have c0 : decide (i1 ≤ given) = false := decide_eq_false g0
  by_cases g1 : 256 < i1
  · have HV := Lib.hid (HR1.out (fun hh => by obtain ⟨h1, h2, h3, h4, h5, h6, h7, h8, h9, h10, h11⟩ := hh; omega))
    clear HR1 HR2 HB1 HB2
    go_wp2_with fail
    go_quiet (fail)
    go_wp2
    go_ret
    exact ⟨by rw [HV.out]; rfl, by rw [HV.out, HN.out]; exact HE.out _ (below_drewN B1.out _)⟩
  have c1 : decide (256 < i1) = false := decide_eq_false g1
  by_cases g2 : i3 < 1
  · have HV := Lib.hid (HR1.out (fun hh => by obtain ⟨h1, h2, h3, h4, h5, h6, h7, h8, h9, h10, h11⟩ := hh; omega))
    clear HR1 HR2 HB1 HB2
    go_wp2_with fail
    go_quiet (fail)
    go_wp2
    go_ret
    exact ⟨by rw [HV.out]; rfl, by rw [HV.out, HN.out]; exact HE.out _ (below_drewN B1.out _)⟩
  have c2 : decide (i3 < 1) = false := decide_eq_false g2
  by_cases g3 : 1048576 < i3
  · have HV := Lib.hid (HR1.out (fun hh => by obtain ⟨h1, h2, h3, h4, h5, h6, h7, h8, h9, h10, h11⟩ := hh; omega))
    clear HR1 HR2 HB1 HB2
    go_wp2_with fail
    go_quiet (fail)
    go_wp2
    go_ret
    exact ⟨by rw [HV.out]; rfl, by rw [HV.out, HN.out]; exact HE.out _ (below_drewN B1.out _)⟩
  have c3 : decide (1048576 < i3) = false := decide_eq_false g3
  by_cases g4 : i7 < 0
  · have HV := Lib.hid (HR1.out (fun hh => by obtain ⟨h1, h2, h3, h4, h5, h6, h7, h8, h9, h10, h11⟩ := hh; omega))
    clear HR1 HR2 HB1 HB2
    go_wp2_with fail
    go_quiet (fail)
    go_wp2
    go_ret
    exact ⟨by rw [HV.out]; rfl, by rw [HV.out, HN.out]; exact HE.out _ (below_drewN B1.out _)⟩
  have c4 : decide (i7 < 0) = false := decide_eq_false g4
  by_cases g5 : 4 < i7
  · have HV := Lib.hid (HR1.out (fun hh => by obtain ⟨h1, h2, h3, h4, h5, h6, h7, h8, h9, h10, h11⟩ := hh; omega))
    clear HR1 HR2 HB1 HB2
    go_wp2_with fail
    go_quiet (fail)
    go_wp2
    go_ret
    exact ⟨by rw [HV.out]; rfl, by rw [HV.out, HN.out]; exact HE.out _ (below_drewN B1.out _)⟩
  have c5 : decide (4 < i7) = false := decide_eq_false g5
  cases rb with
  | false =>
    have HV := Lib.hid (HR1.out (fun hh => by have := HB2.out hh.2.2.2.2.2.2.1; cases this))
    clear HR1 HR2 HB1 HB2
    go_wp2_with fail
    go_quiet (fail)
    go_wp2
    go_ret
    exact ⟨by rw [HV.out]; rfl, by rw [HV.out, HN.out]; exact HE.out _ (below_drewN B1.out _)⟩
  | true =>
  have HS := Lib.hid (HB1.out rfl)
  clear HB1 HB2
  by_cases g7 : i2 < 0
  · have HV := Lib.hid (HR1.out (fun hh => by obtain ⟨h1, h2, h3, h4, h5, h6, h7, h8, h9, h10, h11⟩ := hh; omega))
    clear HR1 HR2 HS
    go_wp2_with fail
    go_quiet (fail)
    go_wp2
    go_ret
    exact ⟨by rw [HV.out]; rfl, by rw [HV.out, HN.out]; exact HE.out _ (below_drewN B1.out _)⟩
  have c7 : decide (i2 < 0) = false := decide_eq_false g7
  by_cases g8 : i4 < 0
  · have HV := Lib.hid (HR1.out (fun hh => by obtain ⟨h1, h2, h3, h4, h5, h6, h7, h8, h9, h10, h11⟩ := hh; omega))
    clear HR1 HR2 HS
    go_wp2_with fail
    go_quiet (fail)
    go_wp2
    go_ret
    exact ⟨by rw [HV.out]; rfl, by rw [HV.out, HN.out]; exact HE.out _ (below_drewN B1.out _)⟩
  have c8 : decide (i4 < 0) = false := decide_eq_false g8
  by_cases g9 : i5 < 0
  · have HV := Lib.hid (HR1.out (fun hh => by obtain ⟨h1, h2, h3, h4, h5, h6, h7, h8, h9, h10, h11⟩ := hh; omega))
    clear HR1 HR2 HS
    go_wp2_with fail
    go_quiet (fail)
    go_wp2
    go_ret
    exact ⟨by rw [HV.out]; rfl, by rw [HV.out, HN.out]; exact HE.out _ (below_drewN B1.out _)⟩
  have c9 : decide (i5 < 0) = false := decide_eq_false g9
  by_cases g10 : i6 < 0
  · have HV := Lib.hid (HR1.out (fun hh => by obtain ⟨h1, h2, h3, h4, h5, h6, h7, h8, h9, h10, h11⟩ := hh; omega))
    clear HR1 HR2 HS
    go_wp2_with fail
    go_quiet (fail)
    go_wp2
    go_ret
    exact ⟨by rw [HV.out]; rfl, by rw [HV.out, HN.out]; exact HE.out _ (below_drewN B1.out _)⟩
  have c10 : decide (i6 < 0) = false := decide_eq_false g10
  have HV := Lib.hid (HR2.out (by exact ⟨by omega, by omega, by omega, by omega, by omega, by omega, HS.out, by omega, by omega, by omega, by omega⟩))
  clear HR1 HR2 HS HE
  clear g0 g1 g2 g3 g4 g5 g7 g8 g9 g10
  go_wp2_with fail
  go_quiet (fail)
  clear c0 c1 c2 c3 c4 c5 c7 c8 c9 c10 m1 x0 x1 x2 x3 x4 x5 x6
  have B2 := Lib.hid (below_drewN B1.out nq)
  have X2 := Lib.hid (X1.out.drewN nq)
  obtain ⟨w2, hw2⟩ : ∃ w2, w1.drewN nq = w2 := ⟨_, rfl⟩
  rw [hw2] at B2 X2 ⊢
  clear hw2 B1 X1
  have R2 := HK.out _ B2.out
  have f1 : w2.frozen? ⟨g, 1, none⟩ = false := R2.blk.frozen 1
  have m1 : w2.cell? ⟨g, 1, none⟩ = some (.int .i64 given) := R2.blk.cell 1
  have x0 : w2.cell? ⟨w.heap.size, 0, none⟩ = some (.int .i64 i1) := X2.out.cell 0
  have R3 := Lib.hid (R2.gave i1)
  have S2 := HY.out _ B2.out
  have TT : Turn (fun k => k = g) w2 (w2.setCell ⟨g, 1, none⟩ (.int .i64 i1)) := (Turn.refl (fun k => k = g) w2).setCell (p := ⟨g, 1, none⟩) (.inl rfl) _
  have S3 := Lib.hid (S2.turn TT (fun k hk e => (HKY.out k hk).1 e))
  have T3 : Hid (Turn (RFoot g (.slice q0 n d0)) w (w2.setCell ⟨g, 1, none⟩ (.int .i64 i1))) := Lib.hid ((Turn.of_below (S := RFoot g (.slice q0 n d0)) B2.out).setCell (p := ⟨g, 1, none⟩) (.inl (.inl rfl)) (.int .i64 i1))
  have X3 := Lib.hid (X2.out.turn TT (fun e => by have := LTG.out; omega))
  clear S2 TT R2 HK HY
  go_upto_region 5 with fail
  clear f1 m1 x0 B2 X2
  obtain ⟨w3, hw3⟩ : ∃ w3, w2.setCell ⟨g, 1, none⟩ (.int .i64 i1) = w3 := ⟨_, rfl⟩
  rw [hw3] at R3 S3 T3 X3 ⊢
  clear hw3
  have ho := R3.out.row
  rw [HN.out] at ho
  have hbb := R3.out.blk
  have m0 : w3.cell? ⟨g, 0, none⟩ = some (.slice q0 n d0) := hbb.cell 0
  have x0 : w3.cell? ⟨w.heap.size, 0, none⟩ = some (.int .i64 i1) := X3.out.cell 0
  have x1 : w3.cell? ⟨w.heap.size, 1, none⟩ = some (.int .i64 i2) := X3.out.cell 1
  have x2 : w3.cell? ⟨w.heap.size, 2, none⟩ = some (.int .i64 i3) := X3.out.cell 2
  have x3 : w3.cell? ⟨w.heap.size, 3, none⟩ = some (.int .i64 i4) := X3.out.cell 3
  have x4 : w3.cell? ⟨w.heap.size, 4, none⟩ = some (.int .i64 i5) := X3.out.cell 4
  have x5 : w3.cell? ⟨w.heap.size, 5, none⟩ = some (.int .i64 i6) := X3.out.cell 5
  have x6 : w3.cell? ⟨w.heap.size, 6, none⟩ = some (.int .i64 i7) := X3.out.cell 6
  have x7 : w3.cell? ⟨w.heap.size, 7, none⟩ = some (.slice p pn pc) := X3.out.cell 7
  have hs3 : B ≤ w3.heap.size := Nat.le_trans R3.out.base (Nat.le_of_lt hbb.lt)
  have ne : (Value.slice q0 n d0).ownBlock ≠ some g := own_blk_ne ho hbb (by decide)
  have lg := hbb.lt
  have lm := X3.out.lt
  go_region_law
    ((refine step_append_lies _ (by rfl) _ _ _ (by rfl) B 32 i0 _ 8 80 Try.underlying22 hi0' hz0 hz1 hz2 rfl (by omega) (.slice q0 n d0) n _ (by rfl) ((ho.alloc _).drew)
          ⟨w3.heap.size, 0, none⟩ 1 1 [.int .i64 i1, .int .i64 i2, .int .i64 i3, .int .i64 i4, .int .i64 i5, .int .i64 i6, .int .i64 i7, .slice p pn pc] (by rfl) (by rfl) (World.news_of_block (cs := #[.int .i64 i1, .int .i64 i2, .int .i64 i3, .int .i64 i4, .int .i64 i5, .int .i64 i6, .int .i64 i7, .slice p pn pc]) (t := 32) (fr := (0, 0)) (heap_alloc_new w3 _)) (by simp [Value.oneCell'])
          (by omega) (by unfold maxLen; omega) (by omega) (by simp; omega) (w3.heap.size + 1) (by simp) ?_; intro gg cap w9 hown1 hgrow hat hlt; have fb := ((hbb.alloc (.cells #[.int .i64 i1, .int .i64 i2, .int .i64 i3, .int .i64 i4, .int .i64 i5, .int .i64 i6, .int .i64 i7, .slice p pn pc] 32)).drewN 1).grown (w' := w9) hgrow (Ne.symm ne); have f2 := fb.frozen 0; have c2 : w9.cell? ⟨g, 0, none⟩ = some (.slice q0 n d0) := fb.cell 0))
  all_goals
    have HF := Lib.hid (put_end (y := ⟨⟨i1, i2, i3, i4, i5, i6, i7, S⟩, p, pn, pc⟩) T3.out R3.out HN.out hown1 hgrow (hat.imp id (fun e => by omega)) fb S3.out HKY.out)
    clear hown1 hgrow hat hlt fb ho hbb
    go_wp2
    go_ret
    exact ⟨by rw [HV.out]; rfl, by rw [HV.out, HN.out]; exact HF.out⟩
end Lo
end Go.Proofs.Ytkfmkchonlajpaa

namespace Go.Proofs.Ytkfmkchonlajpaa
open Go.RowKit Go.Maps

namespace Ms
theorem infoTP : (Try.prog.info? 48).map (fun i => (i.zero, i.size, i.bytes)) = some (some (.agg #[.int .i64 0, .int .i64 0, .int .i64 0]), 3, 24) := by kernel_rfl
theorem tlookP {w : World} {B : Nat} {mo : Option Nat} {S : List Pd} (ht : Tab Pf Pd.id w B mo S) {m : Int} (hm : In64 m) (W : World) (hW : Below w.heap.size w W) :
    (Instr.lookup 75 (.map mo) (.int .i64 m) true).run Try.prog W = .ok (.tuple #[pval ((findK Pd.id m S).getD pd0), .bool (findK Pd.id m S).isSome]) W := by
  rcases ht with ⟨rfl, rfl⟩ | ⟨b, D, rfl, _, hown, hM⟩
  · rw [Maps.look_nil true lawI Try.underlying75 (zeroP W) (key_of hm)]
    rfl
  · exact look Try.underlying75 pd0 zeroP hown hM hm W (hW.block b hown.lt)
set_option maxRecDepth 100000 in
set_option maxHeartbeats 4000000 in
/-- The one of a number. -/
theorem trowP (B h : Nat) (mz mp : Option Nat) (S : List Pd) (m : Int) (w : World) (hl : Lies w h 79 #[.map mz, .map mp]) (ht : Tab Pf Pd.id w B mp S) (hm : In64 m) :
    Calls Try.prog 57 #[.pointer (some ⟨h, 1, none⟩), .int .i64 m] w fun e w' =>
      e = .returned (.tuple #[pval (getK (findK Pd.id m S) pd0).1, .int .i64 ((getK (findK Pd.id m S) pd0).2 : Nat)]) ∧ Below w.heap.size w w' := by
  have K := fun W hW => tlookP ht hm W hW
  generalize findK Pd.id m S = o at *
  have B1 := Lib.hid (alloc_below w (.cells #[.int .i64 0, .int .i64 0, .int .i64 0] 48))
  have L1 := Lib.hid (hl.alloc (.cells #[.int .i64 0, .int .i64 0, .int .i64 0] 48))
  have X1 := Lib.hid (Lies.new w 48 #[.int .i64 0, .int .i64 0, .int .i64 0])
  have HS : Hid (w.heap.size < (w.alloc (.cells #[.int .i64 0, .int .i64 0, .int .i64 0] 48)).heap.size) := Lib.hid (by simp)
  obtain ⟨w1, hw1⟩ : ∃ w1, w.alloc (.cells #[.int .i64 0, .int .i64 0, .int .i64 0] 48) = w1 := ⟨_, rfl⟩
  rw [hw1] at B1 L1 X1 HS
  have k1 := K w1 B1.out
  have l0 : w1.cell? ⟨h, 1, none⟩ = some (.map mp) := L1.out.cell 1
  have FC : ∀ ob i, (w1.alloc ob).cell? ⟨w.heap.size, i, none⟩ = w1.cell? ⟨w.heap.size, i, none⟩ := fun ob i => (alloc_below w1 ob).cell (p := ⟨w.heap.size, i, none⟩) HS.out
  have FG : ∀ ob i, (w1.alloc ob).frozen? ⟨w.heap.size, i, none⟩ = w1.frozen? ⟨w.heap.size, i, none⟩ := fun ob i => (alloc_below w1 ob).frozen (p := ⟨w.heap.size, i, none⟩) HS.out
  clear K ht hm hl
  have r0 : w1.cell? ⟨w.heap.size, 0, none⟩ = some (.int .i64 0) := X1.out.cell 0
  have g0 := X1.out.frozen 0
  have r1 : w1.cell? ⟨w.heap.size, 1, none⟩ = some (.int .i64 0) := X1.out.cell 1
  have g1 := X1.out.frozen 1
  have r2 : w1.cell? ⟨w.heap.size, 2, none⟩ = some (.int .i64 0) := X1.out.cell 2
  have g2 := X1.out.frozen 2
  cases o with
  | none =>
    simp only [Option.getD_none, Option.isSome_none, pd0, pval] at k1
    go_enter Try.func57, Try.ntmps57
    go_wp2
    refine bodyPost_ret (v := .tuple #[pval pd0, .int .i64 5]) (by simp [results, Try.results57, go_sem, pval, pd0, r0, r1, r2, FC]) rfl ⟨rfl, ?_⟩
    iterate 3 refine Below.setCell ?_ (show w.heap.size ≤ _ from Nat.le_refl _) _
    exact B1.out.alloc B1.out.size _
  | some y =>
    obtain ⟨a, b, c⟩ := y
    simp only [Option.getD_some, Option.isSome_some, pval] at k1
    go_enter Try.func57, Try.ntmps57
    go_wp2
    refine bodyPost_ret (v := .tuple #[pval ⟨a, b, c⟩, .int .i64 0]) (by simp [results, Try.results57, go_sem, pval, r0, r1, r2, FC]) rfl ⟨rfl, ?_⟩
    iterate 3 refine Below.setCell ?_ (show w.heap.size ≤ _ from Nat.le_refl _) _
    exact B1.out.alloc B1.out.size _
end Ms
end Go.Proofs.Ytkfmkchonlajpaa

namespace Go.Proofs.Ytkfmkchonlajpaa
open Go.RowKit

namespace Ms
theorem takesP {l l2 : List Pd} {k : Nat} {x : Pd} (h : l.take k = l2.take k) (hx : l[k]? = some x) (hy : l2[k]? = some x) : l.take (k + 1) = l2.take (k + 1) := by
  rw [List.take_add_one, List.take_add_one, h, hx, hy]
theorem notsP {l l2 : List Pd} {k : Nat} {x y : Pd} (hx : l[k]? = some x) (hy : l2[k]? = some y) (h : x ≠ y) : decide (l = l2) = false := by
  rw [decide_eq_false_iff_not]
  rintro rfl
  rw [hx] at hy
  exact h (Option.some.inj hy)
end Ms
end Go.Proofs.Ytkfmkchonlajpaa

namespace Go.Proofs.Ytkfmkchonlajpaa
open Go.RowKit

namespace Lo
theorem infoL : (Try.prog.info? 32).map (fun i => (i.zero, i.size, i.bytes)) = some (some (.agg #[.int .i64 0, .int .i64 0, .int .i64 0, .int .i64 0, .int .i64 0, .int .i64 0, .int .i64 0, .slice none 0 0]), 8, 80) := by kernel_rfl
/-- What an act leaves of the document's stock. -/
def RAct (w : World) (B g : Nat) (v : Value) (K : Nat → Prop) (s : Stk) (w' : World) : Prop := ∃ l', lts l' = s.1 ∧ RDone w B g v K s.2 l' w'
theorem ract_same {w w' : World} {B g : Nat} {v : Value} {given : Int} {l : List Lv} (h : RS w B g v given l) (hb : Below w.heap.size w w') : RAct w B g v (Bks l) (lts l, given) w' := ⟨l, rfl, rdone_same h hb⟩
theorem recv_bad {Z : List Ms.Zn} {P : List Ms.Pd} {s : Stk} {product zone units expiry now : Int} (h : recvOk units expiry now = false) : recvS Z P s product zone units expiry now = ((0, 1), s) := by
  unfold recvS
  rw [if_pos h]
theorem recv_none {Z : List Ms.Zn} {P : List Ms.Pd} {s : Stk} {product zone units expiry now : Int} (h : recvOk units expiry now = true) (hn : Ms.findK Ms.Pd.id product P = none ∨ Ms.findK Ms.Zn.id zone Z = none) : recvS Z P s product zone units expiry now = ((0, 5), s) := by
  unfold recvS
  rw [if_neg (by rw [h]; decide)]
  rcases hn with hn | hn
  · rw [hn]
  · rw [hn]
    cases Ms.findK Ms.Pd.id product P <;> rfl
theorem recv_some {Z : List Ms.Zn} {P : List Ms.Pd} {s : Stk} {product zone units expiry now : Int} (h : recvOk units expiry now = true) {p : Ms.Pd} {z : Ms.Zn} (hp : Ms.findK Ms.Pd.id product P = some p) (hz : Ms.findK Ms.Zn.id zone Z = some z) :
    recvS Z P s product zone units expiry now = if 256 ≤ s.2 ∨ z.room < loadL s.1 zone + units then ((0, 4), s) else ((s.2 + 1, 0), (s.1 ++ [⟨s.2 + 1, product, units, expiry, 0, 0, 0, [⟨zone, now, -1⟩]⟩], s.2 + 1)) := by
  unfold recvS
  rw [if_neg (by rw [h]; decide), hp, hz]
theorem ok_parts {units expiry now : Int} (h : recvOk units expiry now = true) : 1 ≤ units ∧ units ≤ 1048576 ∧ 0 ≤ expiry ∧ expiry ≤ 1048575 ∧ 0 ≤ now ∧ now ≤ 1048575 := by
  simpa [recvOk] using h
theorem RS.made {W : World} {B g : Nat} {v : Value} {given : Int} {l : List Lv} (h : RS W B g v given l) {u : Int} : RS (W.setCell ⟨g, 1, none⟩ (.int .i64 u)) B g v u l := by
  have hT : Turn (fun k => k = g) W (W.setCell ⟨g, 1, none⟩ (.int .i64 u)) := (Turn.refl (fun k => k = g) W).setCell (p := ⟨g, 1, none⟩) (.inl rfl) _
  exact ⟨h.base, by simpa using h.blk.set_ 1 (.int .i64 u), own_turn h.row hT (fun k hk e => own_blk_ne h.row h.blk (by decide) (by rw [hk, e])), fun y hy => (h.stays y hy).turn hT (fun k hk e => (h.apart y hy k hk).1 e), h.apart⟩
/-- One more lot, behind the others; its stays lie at a place of their own. -/
theorem rs_app {w wr w2 : World} {B g gg cap : Nat} {v : Value} {given : Int} {l : List Lv} {y : Lv} {ob1 ob2 : Obj} (hb : Turn (RFoot g v) w wr) (h : RS wr B g v given l)
    (hown : w2.ownsRow B 32 8 (.slice (some ⟨gg, 0, none⟩) (l.length + 1) cap) (l.length + 1) (l.flatMap lcells ++ lcells y))
    (hg : ((wr.alloc ob1).alloc ob2).drew.grownBy w2 v.ownBlock) (hat : v.ownBlock = some gg ∨ gg = wr.heap.size + 2)
    (fb : Lies w2 g 28 #[v, .int .i64 given]) (hy : St w2 y) (hyk : ∀ k, Bk y k → k ≠ g ∧ gg ≠ k) {K : Nat → Prop} (hK : ∀ k, Bks l k → K k) (hyK : ∀ k, Bk y k → K k ∨ w.heap.size ≤ k) :
    RDone w B g v K given (l ++ [y]) (w2.setCell ⟨g, 0, none⟩ (.slice (some ⟨gg, 0, none⟩) (l.length + 1) cap)) := by
  have T1 : Turn (fun k => v.ownBlock = some k) wr w2 := ((((Turn.refl _ wr).alloc ob1).alloc ob2).drew).grown hg (fun k hk => .inl hk)
  have hne : gg ≠ g := fun e => own_blk_ne hown fb (by decide) (by rw [e]; rfl)
  have T2 : Turn (fun k => k = g) w2 (w2.setCell ⟨g, 0, none⟩ (.slice (some ⟨gg, 0, none⟩) (l.length + 1) cap)) := (Turn.refl (fun k => k = g) w2).setCell (p := ⟨g, 0, none⟩) (.inl rfl) _
  have hs := hb.size
  have hapn : ∀ z ∈ l, ∀ k, Bk z k → gg ≠ k := fun z hz k hk e => by
    rcases hat with hat | hat
    · exact (h.apart z hz k hk).2 (by rw [hat, e])
    · have := (h.stays z hz).lt hk
      omega
  refine ⟨.slice (some ⟨gg, 0, none⟩) (l.length + 1) cap, ⟨h.base, ?_, ?_, fun z hz => ?_, fun z hz k hk => ?_⟩, ?_, fun k hk => ?_, fun k hk => ?_⟩
  · simpa using fb.set_ 0 (.slice (some ⟨gg, 0, none⟩) (l.length + 1) cap)
  · rw [List.length_append, ← flat_snoc]
    exact own_turn hown T2 (fun k hk e => by
      subst e
      exact hne (by simpa [Value.ownBlock] using hk))
  · rcases List.mem_append.1 hz with hz | hz
    · exact ((h.stays z hz).turn T1 (fun k hk e => (h.apart z hz k hk).2 e)).turn T2 (fun k hk e => (h.apart z hz k hk).1 e)
    · rw [List.mem_singleton.1 hz]
      exact hy.turn T2 (fun k hk e => (hyk k hk).1 e)
  · rcases List.mem_append.1 hz with hz | hz
    · refine ⟨(h.apart z hz k hk).1, fun e => hapn z hz k hk ?_⟩
      simpa [Value.ownBlock] using e
    · rw [List.mem_singleton.1 hz] at hk
      refine ⟨(hyk k hk).1, fun e => (hyk k hk).2 ?_⟩
      simpa [Value.ownBlock] using e
  · refine (hb.trans (T1.mono (fun i _ hi => .inr hi)) (fun i hi => .inl hi)).trans (S' := fun k => k = g) T2 (fun i hi => .inl (.inl hi))
  · have e : gg = k := by simpa [Value.ownBlock] using hk
    subst e
    rcases hat with hat | hat
    · exact .inl hat
    · exact .inr (by omega)
  · rcases bks_app hk with hk | hk
    · exact .inl (hK k hk)
    · exact hyK k hk
end Lo
end Go.Proofs.Ytkfmkchonlajpaa

namespace Go.Proofs.Ytkfmkchonlajpaa
open Go.RowKit

namespace Lo
theorem recv_end {w wr w2 : World} {B g gg cap : Nat} {v : Value} {u product zone units expiry now : Int} {l : List Lv} (hb : Turn (RFoot g v) w wr) (h : RS wr B g v u l)
    (hown : w2.ownsRow B 32 8 (.slice (some ⟨gg, 0, none⟩) (l.length + 1) cap) (l.length + 1) (l.flatMap lcells ++ [.int .i64 u, .int .i64 product, .int .i64 units, .int .i64 expiry, .int .i64 0, .int .i64 0, .int .i64 0, .slice (some ⟨wr.heap.size, 0, none⟩) 1 1]))
    (hg : ((wr.alloc (.cells #[.int .i64 zone, .int .i64 now, .int .i64 (-1)] 57)).alloc (.cells #[.int .i64 u, .int .i64 product, .int .i64 units, .int .i64 expiry, .int .i64 0, .int .i64 0, .int .i64 0, .slice (some ⟨wr.heap.size, 0, none⟩) 1 1] 32)).drew.grownBy w2 v.ownBlock) (hat : v.ownBlock = some gg ∨ gg = wr.heap.size + 2)
    (fb : Lies w2 g 28 #[v, .int .i64 u]) :
    RAct w B g v (Bks l) (lts l ++ [⟨u, product, units, expiry, 0, 0, 0, [⟨zone, now, -1⟩]⟩], u) (w2.setCell ⟨g, 0, none⟩ (.slice (some ⟨gg, 0, none⟩) (l.length + 1) cap)) := by
  have hbk : ∀ k, Bk ⟨⟨u, product, units, expiry, 0, 0, 0, [⟨zone, now, -1⟩]⟩, some ⟨wr.heap.size, 0, none⟩, 1, 1⟩ k → k = wr.heap.size := by
    rintro k ⟨_, a, ha, rfl⟩
    rw [← Option.some.inj ha]
  have hst : Lies w2 wr.heap.size 57 #[.int .i64 zone, .int .i64 now, .int .i64 (-1)] := by
    refine ((((Lies.new wr 57 #[.int .i64 zone, .int .i64 now, .int .i64 (-1)]).alloc (.cells #[.int .i64 u, .int .i64 product, .int .i64 units, .int .i64 expiry, .int .i64 0, .int .i64 0, .int .i64 0, .slice (some ⟨wr.heap.size, 0, none⟩) 1 1] 32)).drewN 1).grown (w' := w2) hg (fun e => ?_))
    have := (own_lt h.row e.symm).2
    omega
  refine ⟨l ++ [⟨⟨u, product, units, expiry, 0, 0, 0, [⟨zone, now, -1⟩]⟩, some ⟨wr.heap.size, 0, none⟩, 1, 1⟩], by simp [lts], ?_⟩
  refine rs_app hb h hown hg hat fb ⟨⟨rfl, fun _ => ⟨wr.heap.size, 0, rfl, fun j x hx i hi => ?_⟩⟩, Nat.le_refl _⟩ (fun k hk => ?_) (fun k hk => hk) (fun k hk => .inr (by rw [hbk k hk]; exact hb.size))
  · have hj : j = 0 := by
      have := (List.getElem?_eq_some_iff.1 hx).1
      simp at this
      exact this
    subst hj
    simp at hx
    subst hx
    rw [Nat.zero_mul, Nat.zero_add, hst.cell]
    match i, hi with
    | 0, _ => rfl
    | 1, _ => rfl
    | 2, _ => rfl
  · rw [hbk k hk]
    have h1 := h.blk.lt
    refine ⟨by omega, fun e => ?_⟩
    rcases hat with hat | hat
    · have := (own_lt h.row hat).2
      omega
    · omega
end Lo
end Go.Proofs.Ytkfmkchonlajpaa

namespace Go.Proofs.Ytkfmkchonlajpaa
open Go.RowKit

namespace Lo
/-- The blocks of the document's master; of its stock, stays too. -/
def MF (gm : Nat) (vz vp : Value) (k : Nat) : Prop := k = gm ∨ vz.ownBlock = some k ∨ vp.ownBlock = some k
def SF (g : Nat) (v : Value) (l : List Lv) (k : Nat) : Prop := RFoot g v k ∨ Bks l k
theorem sf_lt {W : World} {B g : Nat} {v : Value} {u : Int} {l : List Lv} (h : RS W B g v u l) {k : Nat} (hk : SF g v l k) : k < W.heap.size := by
  rcases hk with hk | ⟨y, hy, hk⟩
  · exact (h.foot hk).2
  · exact (h.stays y hy).lt hk
/-- What lies in these blocks stays. -/
def Still (X : Nat → Prop) (W w' : World) : Prop := ∃ T, Turn T W w' ∧ ∀ k, X k → ¬ T k
theorem Still.lies {X : Nat → Prop} {W w' : World} (h : Still X W w') {k : Nat} {t : TypeId} {cs : Array Value} (hx : X k) (hl : Lies W k t cs) : Lies w' k t cs := by
  obtain ⟨T, ht, hk⟩ := h
  exact hl.turn ht (hk k hx)
section
variable {M : Ms.Face} {I : Face M} {X : Nat → Prop} {base : Nat} {w W : World} {h hm g gm : Nat} {s s2 : Stk} {m m2 : Nat} {Z : List Ms.Zn} {P : List Ms.Pd}
end
end Lo
end Go.Proofs.Ytkfmkchonlajpaa

namespace Go.Proofs.Ytkfmkchonlajpaa
open Go.RowKit

namespace Lo
/-- What an act says, and leaves. -/
noncomputable def actS (Z : List Ms.Zn) (P : List Ms.Pd) (s : Stk) (r a b c d now : Int) : Say × Stk :=
  if r = 2 ∨ r = 3 then ((0, (moveS Z s a b now).1), (moveS Z s a b now).2) else if r = 4 then splitS s a b else if r = 5 then ((0, (mergeS s a b).1), (mergeS s a b).2)
  else if r = 6 then ((0, (markS s a b c d).1), (markS s a b c d).2) else if r = 7 then ((0, (leaveS s a now).1), (leaveS s a now).2) else recvS Z P s a b c d now
section
variable {M : Ms.Face} {I : Face M} {X : Nat → Prop} {base : Nat} {w W : World} {h hm g gm : Nat} {s s2 : Stk} {m m2 : Nat} {Z : List Ms.Zn} {P : List Ms.Pd}
theorem still_trans {a b c : World} (h1 : Still X a b) (h2 : Still X b c) : Still X a c := by
  obtain ⟨T1, t1, k1⟩ := h1
  obtain ⟨T2, t2, k2⟩ := h2
  exact ⟨fun i => T1 i ∨ T2 i, (t1.mono (fun i _ hi => .inl hi)).trans t2 (fun i hi => .inl (.inr hi)), fun k hk e => e.elim (k1 k hk) (k2 k hk)⟩
theorem still_below {a b : World} (hb : Below a.heap.size a b) : Still X a b := ⟨fun _ => False, Turn.of_below hb, fun _ _ e => e⟩
theorem still_less {a b : World} {Y : Nat → Prop} (h : Still Y a b) (hY : ∀ k, X k → Y k) : Still X a b := by
  obtain ⟨T, t, k⟩ := h
  exact ⟨T, t, fun i hi => k i (hY i hi)⟩
end
end Lo
end Go.Proofs.Ytkfmkchonlajpaa

namespace Go.Proofs.Ytkfmkchonlajpaa
open Go.RowKit

namespace Ms
theorem step_Z (I : Face) {w W : World} {h : Nat} {F : Nat → Prop} {Z Z' : List Zn} {P : List Pd} {z : Zn} {n : Nat} (hb : Below w.heap.size w W) (hd : I.DB W w.heap.size h F Z P) (hG : GoodZ Z) (hL : Z.length ≤ 1000) (e : addZ Z z = (n, Z')) (i : Int) (hi : i = n) :
    Calls Try.prog 16 #[.pointer (some ⟨h, 0, none⟩), zval z] W fun e w' => e = .returned (.int .i64 i) ∧ ∃ F', I.DB w' w.heap.size h F' Z' P ∧ Below w.heap.size w w' := by
  refine (I.addZ _ h F Z P z W hd hG hL).mono fun e2 w' ⟨he, hF⟩ => ?_
  rw [e] at he hF
  subst hi
  exact ⟨he, I.next_below hd hb hb.size hF⟩
theorem step_P (I : Face) {w W : World} {h : Nat} {F : Nat → Prop} {Z : List Zn} {P P' : List Pd} {p : Pd} {n : Nat} (hb : Below w.heap.size w W) (hd : I.DB W w.heap.size h F Z P) (hG : GoodP P) (hL : P.length ≤ 1000) (e : addP P p = (n, P')) (i : Int) (hi : i = n) :
    Calls Try.prog 17 #[.pointer (some ⟨h, 0, none⟩), pval p] W fun e w' => e = .returned (.int .i64 i) ∧ ∃ F', I.DB w' w.heap.size h F' Z P' ∧ Below w.heap.size w w' := by
  refine (I.addP _ h F Z P p W hd hG hL).mono fun e2 w' ⟨he, hF⟩ => ?_
  rw [e] at he hF
  subst hi
  exact ⟨he, I.next_below hd hb hb.size hF⟩
def z1 : Zn := ⟨3, 80, 5, 9, true, 0⟩
def p1 : Pd := ⟨2, 50, 7⟩
theorem good_z1 : GoodZ [z1] := ⟨List.pairwise_singleton _ _, fun x hx => by
  rw [List.mem_singleton.1 hx]
  decide⟩
theorem good_p1 : GoodP [p1] := ⟨List.pairwise_singleton _ _, fun x hx => by
  rw [List.mem_singleton.1 hx]
  decide⟩
theorem zs_end {Z : List Zn} {w w' : World} {e : Ending} {n : Nat} (hn : Z.length = n) (h : ZsEnd Z w e w') : ∃ q c, e = .returned (.slice q n c) ∧ n ≤ c ∧ w'.ownsRow w.heap.size 45 6 (.slice q n c) n (Z.flatMap zcells) ∧ Rw 6 zcells w' q n Z ∧ Below w.heap.size w w' := by
  subst hn
  obtain ⟨v, rfl, ho, hb⟩ := h
  obtain ⟨q, c, rfl, hc, hr⟩ := rw_own zcells_len ho
  exact ⟨q, c, rfl, hc, ho, hr, hb⟩
theorem ps_end {P : List Pd} {w w' : World} {e : Ending} {n : Nat} (hn : P.length = n) (h : PsEnd P w e w') : ∃ q c, e = .returned (.slice q n c) ∧ n ≤ c ∧ w'.ownsRow w.heap.size 48 3 (.slice q n c) n (P.flatMap pcells) ∧ Rw 3 pcells w' q n P ∧ Below w.heap.size w w' := by
  subst hn
  obtain ⟨v, rfl, ho, hb⟩ := h
  obtain ⟨q, c, rfl, hc, hr⟩ := rw_own pcells_len ho
  exact ⟨q, c, rfl, hc, ho, hr, hb⟩
end Ms
end Go.Proofs.Ytkfmkchonlajpaa

namespace Go.Proofs.Ytkfmkchonlajpaa
open Go.RowKit

namespace Lo
def az1 : Ms.Zn := ⟨1, 0, 0, 10, false, 0⟩
def az2 : Ms.Zn := ⟨2, 0, 0, 5, true, 0⟩
def ap1 : Ms.Pd := ⟨7, 0, 0⟩
theorem good_az1 : Ms.GoodZ [az1] := Ms.goodZ_add (S := []) Ms.goodZ_nil az1
theorem good_az : Ms.GoodZ [az1, az2] := Ms.goodZ_add (S := [az1]) good_az1 az2
theorem good_ap : Ms.GoodP [ap1] := Ms.goodP_add (S := []) Ms.goodP_nil ap1
abbrev sa : List Sy.Sy := [⟨1, 3, -1⟩]
abbrev sb : List Sy.Sy := [⟨1, 3, 9⟩, ⟨2, 9, -1⟩]
def st1 : Stk := ([⟨1, 7, 8, 90, 0, 0, 0, sa⟩], 1)
def st2 : Stk := ([⟨1, 7, 3, 90, 0, 0, 0, sa⟩, ⟨2, 7, 5, 90, 0, 0, 0, sa⟩], 2)
def st3 : Stk := ([⟨1, 7, 3, 90, 0, 0, 0, sa⟩, ⟨2, 7, 5, 90, 0, 0, 0, sb⟩], 2)
def st4 : Stk := ([⟨1, 7, 3, 90, 0, 0, 0, sa⟩, ⟨2, 7, 3, 90, 0, 0, 0, sb⟩, ⟨3, 7, 2, 90, 0, 0, 0, sb⟩], 3)
def st5 : Stk := ([⟨1, 7, 3, 90, 0, 0, 0, sa⟩, ⟨2, 7, 5, 90, 0, 0, 0, sb⟩], 3)
theorem e1 : recvS [az1, az2] [ap1] ([], 0) 7 1 8 90 3 = ((1, 0), st1) := by decide
theorem e2 : recvS [az1, az2] [ap1] st1 7 1 3 90 3 = ((0, 4), st1) := by decide
theorem e3 : splitS st1 1 5 = ((2, 0), st2) := by decide
theorem e4 : moveS [az1, az2] st2 2 2 9 = (0, st3) := by
  have h1 : at_ 2 st2.1 = some 1 := by decide
  have h2 : Ms.findK Ms.Zn.id 2 [az1, az2] = some az2 := by decide
  have h3 : st2.1[1]? = some ⟨2, 7, 5, 90, 0, 0, 0, sa⟩ := by decide
  have h4 : Sy.May sa 9 ∧ (1 : Int) ≤ 2 := ⟨⟨Sy.right_B.1 (by decide), by decide, fun s hs => by obtain rfl := Option.some.inj (show some (⟨1, 3, -1⟩ : Sy.Sy) = some s from hs); exact .inl ⟨rfl, by decide⟩⟩, by decide⟩
  unfold moveS
  rw [h1, h2]
  simp only [h3]
  rw [if_neg (by decide), if_neg (by decide), if_neg (by decide), if_pos h4]
  decide
theorem e5 : moveS [az1, az2] st3 1 2 9 = (4, st3) := by
  have h1 : at_ 1 st3.1 = some 0 := by decide
  have h2 : Ms.findK Ms.Zn.id 2 [az1, az2] = some az2 := by decide
  have h3 : st3.1[0]? = some ⟨1, 7, 3, 90, 0, 0, 0, sa⟩ := by decide
  unfold moveS
  rw [h1, h2]
  simp only [h3]
  rw [if_neg (by decide), if_neg (by decide), if_pos (by decide)]
theorem e6 : mergeS st3 1 2 = (12, st3) := by decide
theorem e7 : splitS st3 2 2 = ((3, 0), st4) := by decide
theorem e8 : mergeS st4 2 3 = (0, st5) := by decide
theorem e9 : lotS st5 2 = (⟨2, 7, 5, 90, 0, 0, 0, sb⟩, 0) := by decide
set_option maxRecDepth 100000 in
set_option maxHeartbeats 8000000 in
/-- The live question. -/
theorem alive_any {M : Ms.Face} (I : Face M) (w : World) : Calls Try.prog 4 #[] w fun e w' => e = .returned (.bool true) ∧ Below w.heap.size w w' := by
  go_enter Try.func4, Try.ntmps4
  go_wp2_with fail
  refine (M.new _).mono ?_
  rintro e w1 ⟨hm, F0, rfl, hd, hb⟩
  have D := Lib.hid hd
  have B := Lib.hid hb
  clear hd hb
  go_wp2_with fail
  refine (show Calls _ _ #[_, Ms.zval az1] _ _ from Ms.step_Z M B.out D.out Ms.goodZ_nil (by decide) (show Ms.addZ [] az1 = (0, [az1]) by decide) 0 rfl).mono ?_
  rintro e w2 ⟨rfl, F1, hd, hb⟩
  clear D B
  have D := Lib.hid hd
  have B := Lib.hid hb
  clear hd hb
  go_wp2_with fail
  refine (show Calls _ _ #[_, Ms.zval az2] _ _ from Ms.step_Z M B.out D.out good_az1 (by decide) (show Ms.addZ [az1] az2 = (0, [az1, az2]) by decide) 0 rfl).mono ?_
  rintro e w3 ⟨rfl, F2, hd, hb⟩
  clear D B
  have D := Lib.hid hd
  have B := Lib.hid hb
  clear hd hb
  go_wp2_with fail
  refine (show Calls _ _ #[_, Ms.pval ap1] _ _ from Ms.step_P M B.out D.out Ms.goodP_nil (by decide) (show Ms.addP [] ap1 = (0, [ap1]) by decide) 0 rfl).mono ?_
  rintro e w4 ⟨rfl, F3, hd, hb⟩
  clear D B
  have D := Lib.hid hd
  have B := Lib.hid hb
  clear hd hb
  go_wp2_with fail
  refine (I.new _).mono ?_
  rintro e w5 ⟨h, G0, rfl, hd, hb⟩
  have P0 := Lib.hid (pair_new (I := I) D.out B.out B.out.size hd hb good_az good_ap (by decide) (by decide))
  clear hd hb D B
  go_wp2_with fail
  refine (P0.out.recv (by decide) e1 (i64_of (by decide)) (i64_of (by decide)) (i64_of (by decide)) (i64_of (by decide)) (i64_of (by decide)) 1 0 rfl rfl).mono ?_
  rintro e w6 ⟨rfl, G1, hp⟩
  have P1 := Lib.hid hp
  clear hp P0
  go_wp2_with fail
  refine (P1.out.recv (by decide) e2 (i64_of (by decide)) (i64_of (by decide)) (i64_of (by decide)) (i64_of (by decide)) (i64_of (by decide)) 0 4 rfl rfl).mono ?_
  rintro e w7 ⟨rfl, G2, hp⟩
  have P2 := Lib.hid hp
  clear hp P1
  go_wp2_with fail
  refine (P2.out.split (by decide) e3 (i64_of (by decide)) (i64_of (by decide)) 2 0 rfl rfl).mono ?_
  rintro e w8 ⟨rfl, G3, hp⟩
  have P3 := Lib.hid hp
  clear hp P2
  go_wp2_with fail
  refine (P3.out.move (by decide) e4 (i64_of (by decide)) (i64_of (by decide)) (i64_of (by decide)) 0 rfl).mono ?_
  rintro e w9 ⟨rfl, G4, hp⟩
  have P4 := Lib.hid hp
  clear hp P3
  go_wp2_with fail
  refine (P4.out.move (by decide) e5 (i64_of (by decide)) (i64_of (by decide)) (i64_of (by decide)) 4 rfl).mono ?_
  rintro e w10 ⟨rfl, G5, hp⟩
  have P5 := Lib.hid hp
  clear hp P4
  go_wp2_with fail
  refine (P5.out.merge e6 (i64_of (by decide)) (i64_of (by decide)) 12 rfl).mono ?_
  rintro e w11 ⟨rfl, G6, hp⟩
  have P6 := Lib.hid hp
  clear hp P5
  go_wp2_with fail
  refine (P6.out.split (by decide) e7 (i64_of (by decide)) (i64_of (by decide)) 3 0 rfl rfl).mono ?_
  rintro e w12 ⟨rfl, G7, hp⟩
  have P7 := Lib.hid hp
  clear hp P6
  go_wp2_with fail
  refine (P7.out.merge e8 (i64_of (by decide)) (i64_of (by decide)) 0 rfl).mono ?_
  rintro e w13 ⟨rfl, G8, hp⟩
  have P8 := Lib.hid hp
  clear hp P7
  go_wp2_with fail
  refine (P8.out.lot e9 (i64_of (by decide))).mono ?_
  rintro e w14 ⟨⟨x, p, pn, pc⟩, hx, rfl, hs, hk, hb⟩
  subst hx
  unfold lval
  have P9 := Lib.hid (P8.out.keep hb)
  have hn := hs.len
  have ST := Lib.hid hs
  clear hb hk P8 hs
  obtain rfl : pn = 2 := hn.symm
  obtain ⟨b, o, hpb, hc⟩ := ST.out.1.2 (Nat.zero_lt_succ 1)
  obtain rfl : p = some ⟨b, o, none⟩ := hpb
  have hcap : 2 ≤ pc := ST.out.2
  have X0 := Lib.hid (Lies.new w14 32 #[.int .i64 2, .int .i64 7, .int .i64 5, .int .i64 90, .int .i64 0, .int .i64 0, .int .i64 0, .slice (some ⟨b, o, none⟩) 2 pc])
  have B0 := Lib.hid (alloc_below w14 (.cells #[.int .i64 2, .int .i64 7, .int .i64 5, .int .i64 90, .int .i64 0, .int .i64 0, .int .i64 0, .slice (some ⟨b, o, none⟩) 2 pc] 32))
  have PA := Lib.hid (P9.out.keep B0.out)
  have y0 : w14.cell? ⟨b, o, none⟩ = some (.int .i64 1) := hc 0 ⟨1, 3, 9⟩ rfl 0 (by decide)
  have y1 : w14.cell? ⟨b, o + 1, none⟩ = some (.int .i64 3) := hc 0 ⟨1, 3, 9⟩ rfl 1 (by decide)
  have y2 : w14.cell? ⟨b, o + 2, none⟩ = some (.int .i64 9) := hc 0 ⟨1, 3, 9⟩ rfl 2 (by decide)
  have lb := World.block_lt_of_cell? w14 _ y0
  obtain ⟨w15, hw15⟩ : ∃ w15, w14.alloc (.cells #[.int .i64 2, .int .i64 7, .int .i64 5, .int .i64 90, .int .i64 0, .int .i64 0, .int .i64 0, .slice (some ⟨b, o, none⟩) 2 pc] 32) = w15 := ⟨_, rfl⟩
  rw [hw15] at X0 B0 PA
  have z0 : w15.cell? ⟨b, o, none⟩ = some (.int .i64 1) := (B0.out.cell (p := ⟨b, o, none⟩) lb).trans y0
  have z1 : w15.cell? ⟨b, o + 1, none⟩ = some (.int .i64 3) := (B0.out.cell (p := ⟨b, o + 1, none⟩) lb).trans y1
  have z2 : w15.cell? ⟨b, o + 2, none⟩ = some (.int .i64 9) := (B0.out.cell (p := ⟨b, o + 2, none⟩) lb).trans y2
  have x2 : w15.cell? ⟨w14.heap.size, 2, none⟩ = some (.int .i64 5) := X0.out.cell 2
  have x7 : w15.cell? ⟨w14.heap.size, 7, none⟩ = some (.slice (some ⟨b, o, none⟩) 2 pc) := X0.out.cell 7
  clear hc y0 y1 y2 hn ST P9
  have CL := Lib.hid (PA.out.load (zone := 2) (show loadL st5.1 2 = 5 by decide) (i64_of (by decide)))
  go_wp2_with fail
  refine CL.out.mono ?_
  rintro e w16 ⟨rfl, hb⟩
  have PB := Lib.hid (PA.out.keep hb)
  clear hb PA CL x2 x7 z0 z1 z2 X0 B0 hw15
  go_wp2_with fail
  refine PB.out.given.mono ?_
  rintro e w17 ⟨rfl, hb⟩
  have PC := Lib.hid (PB.out.keep hb)
  clear hb PB
  go_wp2_with fail
  refine PC.out.lots.mono ?_
  rintro e w18 hl
  obtain ⟨q, c, L, hL, rfl, _, _, _, _, hb⟩ := lots_end hl
  have BE := Lib.hid (PC.out.keep hb).below
  clear hb hl hL PC
  go_wp2
  go_ret
  exact ⟨rfl, BE.out⟩
end Lo
end Go.Proofs.Ytkfmkchonlajpaa

namespace Go.Proofs.Ytkfmkchonlajpaa
open Go.RowKit

namespace Ms
end Ms
end Go.Proofs.Ytkfmkchonlajpaa

namespace Go.Proofs.Ytkfmkchonlajpaa
open Go.RowKit

namespace Ms
end Ms
end Go.Proofs.Ytkfmkchonlajpaa

namespace Go.Proofs.Ytkfmkchonlajpaa
open Go.RowKit

namespace Ms
end Ms
end Go.Proofs.Ytkfmkchonlajpaa

namespace Go.Proofs.Ytkfmkchonlajpaa
open Go.RowKit

namespace Ms
def runZ (l : List Zn) : List Zn := l.foldl (fun S z => (addZ S z).2) []
def runP (l : List Pd) : List Pd := l.foldl (fun S z => (addP S z).2) []
theorem runZ_snoc (l : List Zn) (x : Zn) : runZ (l ++ [x]) = (addZ (runZ l) x).2 := by simp [runZ, List.foldl_append]
theorem runP_snoc (l : List Pd) (x : Pd) : runP (l ++ [x]) = (addP (runP l) x).2 := by simp [runP, List.foldl_append]
theorem foldZ_ok : ∀ (l : List Zn) (S : List Zn), GoodZ S → GoodZ (l.foldl (fun S z => (addZ S z).2) S) ∧ (l.foldl (fun S z => (addZ S z).2) S).length ≤ S.length + l.length
  | [], S, h => ⟨h, Nat.le_refl _⟩
  | x :: l, S, h => by
    have := foldZ_ok l (addZ S x).2 (goodZ_add h x)
    have h2 := addZ_len (S := S) (z := x)
    refine ⟨this.1, ?_⟩
    simp only [List.foldl_cons, List.length_cons]
    omega
theorem foldP_ok : ∀ (l : List Pd) (S : List Pd), GoodP S → GoodP (l.foldl (fun S z => (addP S z).2) S) ∧ (l.foldl (fun S z => (addP S z).2) S).length ≤ S.length + l.length
  | [], S, h => ⟨h, Nat.le_refl _⟩
  | x :: l, S, h => by
    have := foldP_ok l (addP S x).2 (goodP_add h x)
    have h2 := addP_len (S := S) (p := x)
    refine ⟨this.1, ?_⟩
    simp only [List.foldl_cons, List.length_cons]
    omega
theorem runZ_good (l : List Zn) : GoodZ (runZ l) := (foldZ_ok l [] goodZ_nil).1
theorem runP_good (l : List Pd) : GoodP (runP l) := (foldP_ok l [] goodP_nil).1
theorem runZ_len (l : List Zn) : (runZ l).length ≤ l.length := by have := (foldZ_ok l [] goodZ_nil).2; simpa [runZ] using this
theorem runP_len (l : List Pd) : (runP l).length ≤ l.length := by have := (foldP_ok l [] goodP_nil).2; simpa [runP] using this
/-- All of them: how they lie. -/
def LayZ (w : World) (q : Option Addr) (n : Nat) (L : List Zn) : Prop := Rw 6 zcells w q n L
/-- All of them: how they lie. -/
def LayP (w : World) (q : Option Addr) (n : Nat) (L : List Pd) : Prop := Rw 3 pcells w q n L
theorem takeZ {α : Type} {L : List α} {k : Nat} {y : α} (hy : L[k]? = some y) : L.take (k + 1) = L.take k ++ [y] := take_one hy
end Ms
end Go.Proofs.Ytkfmkchonlajpaa

namespace Go.Proofs.Ytkfmkchonlajpaa
open Go.RowKit

namespace Lo
end Lo
end Go.Proofs.Ytkfmkchonlajpaa

namespace Go.Proofs.Ytkfmkchonlajpaa
open Go.RowKit

namespace Lo
/-- Two stocks that hold the same. -/
structure TwoAt {M : Ms.Face} (I : Face M) (bs Bg : Nat) (W : World) (h g : Nat) (F : Nat → Prop) (v : Value) (l : List Lv) (s : Stk) (m : Nat) : Prop where
  st : I.DB W bs h F s
  rs : RS W Bg g v s.2 l
  eq : lts l = s.1
  good : GoodM s m
section
variable {M : Ms.Face} {I : Face M} {X : Nat → Prop} {base bs Bg : Nat} {w W : World} {h hm g gm : Nat} {s : Stk} {m m2 : Nat} {Z : List Ms.Zn} {P : List Ms.Pd} {F : Nat → Prop} {v : Value} {l : List Lv}
theorem TwoAt.keep (p : TwoAt I bs Bg W h g F v l s m) {w' : World} (hb : Below W.heap.size W w') : TwoAt I bs Bg w' h g F v l s m := ⟨I.keep p.st hb, p.rs.keep hb, p.eq, p.good⟩
theorem TwoAt.len (p : TwoAt I bs Bg W h g F v l s m) : l.length = s.1.length := by rw [← p.eq, lts, List.length_map]
theorem TwoAt.gl (p : TwoAt I bs Bg W h g F v l s m) : Good (lts l, s.2) := by rw [p.eq]; exact p.good.1
theorem TwoAt.small (p : TwoAt I bs Bg W h g F v l s m) : s.1.length ≤ 256 := good_len p.good.1
/-- Package stock's lots. -/
theorem eye_lots (p : TwoAt I bs Bg W h g F v l s m) {n : Nat} (hn : s.1.length = n) {W' : World} (hb : Below W.heap.size W W') :
    Calls Try.prog 10 #[.pointer (some ⟨h, 0, none⟩)] W' fun e w' => ∃ q c L, lts L = s.1 ∧ e = .returned (.slice q n c) ∧ Ll w' q n L ∧ Below W'.heap.size W' w' := by
  subst hn
  refine (I.lots bs h F s W' (I.keep p.st hb) p.good.1).mono fun e w' hh => ?_
  obtain ⟨q, c, L, h1, h2, _, _, h5, h6, h7⟩ := lots_end hh
  have hL : L.length = s.1.length := by rw [← h1, lts, List.length_map]
  exact ⟨q, c, L, h1, h2, ⟨by rw [← hL]; exact h5, fun y hy => (h6 y hy).1⟩, h7⟩
/-- The document's lots, its greatest number. -/
theorem eye_list (p : TwoAt I bs Bg W h g F v l s m) {n : Nat} (hn : s.1.length = n) : ∃ q c, ∀ W', Below W.heap.size W W' → W'.cell? ⟨g, 0, none⟩ = some (.slice q n c) ∧ W'.cell? ⟨g, 1, none⟩ = some (.int .i64 s.2) ∧ Ll W' q n l := by
  obtain ⟨q, c, hv, hc, hl⟩ := rs_list p.rs
  rw [p.len, hn] at hv hl
  subst hv
  exact ⟨q, c, fun W' hb => ⟨(p.rs.keep hb).blk.cell 0, (p.rs.keep hb).blk.cell 1, hl.keep hb⟩⟩
theorem lots_short {L : List Lv} {W' : World} (hg : GoodM s m) (he : lts L = s.1) {q : Option Addr} {n : Nat} (hl : Ll W' q n L) : ∀ y ∈ L, y.n ≤ 1000000 := fun y hy => by
  have h1 : y.x ∈ s.1 := by rw [← he]; exact List.mem_map_of_mem hy
  have h2 := hg.1.long _ h1
  have h3 := (hl.2 y hy).len
  omega
theorem eye_same (p : TwoAt I bs Bg W h g F v l s m) {n : Nat} (hn : s.1.length = n) {W' : World} {q1 q2 : Option Addr} {c1 c2 : Nat} {L1 L2 : List Lv} (e1 : lts L1 = s.1) (e2 : lts L2 = s.1) (h1 : Ll W' q1 n L1) (h2 : Ll W' q2 n L2) :
    Calls Try.prog 9 #[.slice q1 n c1, .slice q2 n c2] W' fun e w' => e = .returned (.bool true) ∧ Below W'.heap.size W' w' := by
  have := rsame_any q1 q2 n n c1 c2 L1 L2 W' h1 h2 (by have := p.small; omega) (lots_short p.good e1 h1)
  rw [e1, e2, decide_eq_true rfl] at this
  exact this
theorem lotS_short (hg : GoodM s m) {id : Int} {x : Lt} {c : Nat} (e : lotS s id = (x, c)) : x.stays.length ≤ 100000 := by
  unfold lotS at e
  split at e
  · split at e
    · rename_i y hy
      obtain ⟨rfl, _⟩ := Prod.mk.inj e
      exact hg.1.long _ (List.mem_of_getElem? hy)
    · obtain ⟨rfl, _⟩ := Prod.mk.inj e
      simp [lt0]
  · obtain ⟨rfl, _⟩ := Prod.mk.inj e
    simp [lt0]
theorem eye_lot1 (p : TwoAt I bs Bg W h g F v l s m) {id : Int} (hi : I64 id) {x : Lt} {c : Nat} (e : lotS s id = (x, c)) {W' : World} (hb : Below W.heap.size W W') :
    Calls Try.prog 22 #[.pointer (some ⟨h, 0, none⟩), .int .i64 id] W' fun en w' => ∃ q n d, en = .returned (.tuple #[lval ⟨x, q, n, d⟩, .int .i64 (c : Nat)]) ∧ St w' ⟨x, q, n, d⟩ ∧ Below W'.heap.size W' w' := by
  have := I.lot bs h F s id W' (I.keep p.st hb) p.good.1 hi
  rw [e] at this
  refine this.mono fun en w' hh => ?_
  obtain ⟨⟨x', q, n, d⟩, rfl, he, hs, _, hw⟩ := hh
  exact ⟨q, n, d, he, hs, hw⟩
theorem eye_one (hg : GoodM s m) {id : Int} {x : Lt} {c : Nat} (e : lotS s id = (x, c)) {q1 q2 : Option Addr} {n1 n2 d1 d2 : Nat} {W' : World} (h1 : St W' ⟨x, q1, n1, d1⟩) (h2 : St W' ⟨x, q2, n2, d2⟩) :
    Calls Try.prog 27 #[lval ⟨x, q1, n1, d1⟩, lval ⟨x, q2, n2, d2⟩] W' fun en w' => en = .returned (.bool true) ∧ Below W'.heap.size W' w' := by
  have hl := lotS_short hg e
  have h3 := h1.len
  have := rone_any ⟨x, q1, n1, d1⟩ ⟨x, q2, n2, d2⟩ W' h1 h2 (by have h4 : x.stays.length = n1 := h3; show n1 ≤ _; omega)
  rw [decide_eq_true rfl] at this
  exact this
theorem eye_given (p : TwoAt I bs Bg W h g F v l s m) {W' : World} (hb : Below W.heap.size W W') : Calls Try.prog 8 #[.pointer (some ⟨h, 0, none⟩)] W' fun e w' => e = .returned (.int .i64 s.2) ∧ Below W'.heap.size W' w' := I.given bs h F s W' (I.keep p.st hb)
theorem eye_load1 (p : TwoAt I bs Bg W h g F v l s m) {z : Int} (hz : I64 z) {W' : World} (hb : Below W.heap.size W W') : Calls Try.prog 11 #[.pointer (some ⟨h, 0, none⟩), .int .i64 z] W' fun e w' => e = .returned (.int .i64 (loadL s.1 z)) ∧ Below W'.heap.size W' w' := I.load bs h F s z W' (I.keep p.st hb) p.good.1 hz
theorem eye_load2 (p : TwoAt I bs Bg W h g F v l s m) (z : Int) {W' : World} (hb : Below W.heap.size W W') : Calls Try.prog 12 #[.pointer (some ⟨g, 0, none⟩), .int .i64 z] W' fun e w' => e = .returned (.int .i64 (loadL s.1 z)) ∧ Below W'.heap.size W' w' := by
  have := rload_any Bg g v s.2 l z W' (p.rs.keep hb) p.gl
  rw [p.eq] at this
  exact this
end
/-- An act. -/
structure Ac where
  kd : Int
  a : Int
  b : Int
  c : Int
  d : Int
  on : Int
def acells (x : Ac) : List Value := [.int .u8 x.kd, .int .i64 x.a, .int .i64 x.b, .int .i64 x.c, .int .i64 x.d, .int .u8 x.on]
theorem acells_len (x : Ac) : (acells x).length = 6 := rfl
def Aok (x : Ac) : Prop := 0 ≤ x.kd ∧ x.kd ≤ 255 ∧ I64 x.a ∧ I64 x.b ∧ I64 x.c ∧ I64 x.d ∧ 0 ≤ x.on ∧ x.on ≤ 255
end Lo
end Go.Proofs.Ytkfmkchonlajpaa
