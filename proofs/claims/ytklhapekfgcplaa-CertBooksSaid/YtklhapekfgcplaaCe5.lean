/- Walks over the document's answer of layer 17: one more certificate. No condition but those written. -/
import Derived.Test.YtklhapekfgcplaaCe1
import Derived.Test.YtklhapekfgcplaaRwApp
import Derived.Test.YtklhapekfgcplaaRng
import Derived.Deep.RegionLaw
import Derived.Deep.CutRange
namespace Go.Proofs.Ytklhapekfgcplaa
open Go.RowKit

namespace Ce
theorem made_ct (w : World) : (w.alloc (.cells #[] 23)).ownsRow w.heap.size 23 8 (.slice (some ⟨w.heap.size, 0, none⟩) 0 0) 0 (([] : List Ct).flatMap ccells) := World.ownsRow_made w #[] 0 (Nat.le_refl _) (Nat.zero_le _) rfl
theorem rw_grown {α : Type} {k : Nat} {enc : α → List Value} (hk : ∀ x, (enc x).length = k) {w w' : World} {b o n : Nat} {l : List α} {row : Option Nat} (h : Rw k enc w (some ⟨b, o, none⟩) n l) (hg : w.grownBy w' row) (hr : some b ≠ row) : Rw k enc w' (some ⟨b, o, none⟩) n l :=
  h.turn hk (S := fun i => row = some i) ⟨hg.os, hg.tape, hg.output, hg.size, fun i hi hn => hg.block i hi (fun e => hn e.symm)⟩ (fun a ha e => by
    injection ha with ha
    rw [← ha] at e
    exact hr e.symm) (by simp)
theorem floor_own {w : World} {B B' : Nat} {e : TypeId} {k n : Nat} {v : Value} {xs : List Value} (h : w.ownsRow B e k v n xs) (hB : B' ≤ B) : w.ownsRow B' e k v n xs := by
  obtain ⟨h1, h2⟩ := h
  refine ⟨h1, h2.imp id (fun h => ?_)⟩
  obtain ⟨g, cap, cur, e1, e2, e3⟩ := h
  exact ⟨g, cap, cur, e1, Nat.le_trans hB e2, e3⟩
set_option maxRecDepth 100000 in
set_option maxHeartbeats 8000000 in
theorem r17issue_yes (p : Option Addr) (n c : Nat) (l : List Ct) (x : Ct) (w : World) (h : Rw 8 ccells w p n l) (hn : n ≤ 1000000) (hr : rightB x = true) :
    Calls Try.prog 16 #[.slice p n c, cval x] w fun e w' => ∃ q d, e = .returned (.tuple #[.slice q (n + 1) d, .int .i64 ((n : Int) + 1), .int .i64 0]) ∧ w'.ownsRow w.heap.size 23 8 (.slice q (n + 1) d) (n + 1) ((l ++ [{ x with id := (n : Int) + 1 }]).flatMap ccells) ∧ Below w.heap.size w w' := by
  have R := Lib.hid (fun W => r17right_any x W)
  rw [hr] at R
  obtain ⟨i0, hi0, hz0, hz1, hz2⟩ := info_ct
  obtain ⟨ka, kb, kc, kd, ke, kf, kg, kh⟩ := x
  simp only [cval] at R ⊢
  have B0 := Lib.hid (alloc_below w (.cells #[.int .i64 ka, .int .i64 kb, .int .i64 kc, .int .i64 kd, .int .i64 ke, .int .i64 kf, .int .i64 kg, .int .i64 kh] 23))
  have X0 := Lib.hid (Lies.new w 23 #[.int .i64 ka, .int .i64 kb, .int .i64 kc, .int .i64 kd, .int .i64 ke, .int .i64 kf, .int .i64 kg, .int .i64 kh])
  obtain ⟨w1, hw1⟩ : ∃ w1, w.alloc (.cells #[.int .i64 ka, .int .i64 kb, .int .i64 kc, .int .i64 kd, .int .i64 ke, .int .i64 kf, .int .i64 kg, .int .i64 kh] 23) = w1 := ⟨_, rfl⟩
  rw [hw1] at B0 X0
  have H := Lib.hid (fun W (hW : Below w.heap.size w W) => h.keep ccells_len hW)
  have hn' : (n : Int) ≤ 1000000 := by omega
  have x0 : w1.cell? ⟨w.heap.size, 0, none⟩ = some (.int .i64 ka) := X0.out.cell 0
  have x1 : w1.cell? ⟨w.heap.size, 1, none⟩ = some (.int .i64 kb) := X0.out.cell 1
  have x2 : w1.cell? ⟨w.heap.size, 2, none⟩ = some (.int .i64 kc) := X0.out.cell 2
  have x3 : w1.cell? ⟨w.heap.size, 3, none⟩ = some (.int .i64 kd) := X0.out.cell 3
  have x4 : w1.cell? ⟨w.heap.size, 4, none⟩ = some (.int .i64 ke) := X0.out.cell 4
  have x5 : w1.cell? ⟨w.heap.size, 5, none⟩ = some (.int .i64 kf) := X0.out.cell 5
  have x6 : w1.cell? ⟨w.heap.size, 6, none⟩ = some (.int .i64 kg) := X0.out.cell 6
  have x7 : w1.cell? ⟨w.heap.size, 7, none⟩ = some (.int .i64 kh) := X0.out.cell 7
  clear h hn hr
  go_enter Try.func16, Try.ntmps16
  go_wp2_with fail
  refine (R.out _).mono ?_
  rintro e w2 ⟨rfl, hb⟩
  have B2 := Lib.hid (B0.out.trans (hb.mono B0.out.size))
  have X2 := Lib.hid (X0.out.below hb X0.out.lt)
  clear hb B0 X0 R hw1 x0 x1 x2 x3 x4 x5 x6 x7
  have x0 : w2.cell? ⟨w.heap.size, 0, none⟩ = some (.int .i64 ka) := X2.out.cell 0
  have f0 : w2.frozen? ⟨w.heap.size, 0, none⟩ = false := X2.out.frozen 0
  go_upto_region 5 with fail
  have X3 : Hid (Lies (w2.setCell ⟨w.heap.size, 0, none⟩ (.int .i64 ((n : Int) + 1))) w.heap.size 23 #[.int .i64 ((n : Int) + 1), .int .i64 kb, .int .i64 kc, .int .i64 kd, .int .i64 ke, .int .i64 kf, .int .i64 kg, .int .i64 kh]) := Lib.hid (by simpa using X2.out.set_ 0 (.int .i64 ((n : Int) + 1)))
  have B3 := Lib.hid (B2.out.setCell (p := ⟨w.heap.size, 0, none⟩) (Nat.le_refl _) (.int .i64 ((n : Int) + 1)))
  clear x0 f0 X2 B2
  generalize w2.setCell ⟨w.heap.size, 0, none⟩ (.int .i64 ((n : Int) + 1)) = w3 at *
  have x0 : w3.cell? ⟨w.heap.size, 0, none⟩ = some (.int .i64 ((n : Int) + 1)) := X3.out.cell 0
  have x1 : w3.cell? ⟨w.heap.size, 1, none⟩ = some (.int .i64 kb) := X3.out.cell 1
  have x2 : w3.cell? ⟨w.heap.size, 2, none⟩ = some (.int .i64 kc) := X3.out.cell 2
  have x3 : w3.cell? ⟨w.heap.size, 3, none⟩ = some (.int .i64 kd) := X3.out.cell 3
  have x4 : w3.cell? ⟨w.heap.size, 4, none⟩ = some (.int .i64 ke) := X3.out.cell 4
  have x5 : w3.cell? ⟨w.heap.size, 5, none⟩ = some (.int .i64 kf) := X3.out.cell 5
  have x6 : w3.cell? ⟨w.heap.size, 6, none⟩ = some (.int .i64 kg) := X3.out.cell 6
  have x7 : w3.cell? ⟨w.heap.size, 7, none⟩ = some (.int .i64 kh) := X3.out.cell 7
  have B3D := Lib.hid (B3.out.drew)
  have HW3 := Lib.hid (show w.heap.size < w3.heap.size from X3.out.lt)
  refine region_T 11 (fun w' => w'.cell? ⟨w.heap.size, 0, none⟩ = some (.int .i64 ((n : Int) + 1)) ∧ w'.cell? ⟨w.heap.size, 1, none⟩ = some (.int .i64 kb) ∧ w'.cell? ⟨w.heap.size, 2, none⟩ = some (.int .i64 kc) ∧ w'.cell? ⟨w.heap.size, 3, none⟩ = some (.int .i64 kd) ∧ w'.cell? ⟨w.heap.size, 4, none⟩ = some (.int .i64 ke) ∧ w'.cell? ⟨w.heap.size, 5, none⟩ = some (.int .i64 kf) ∧ w'.cell? ⟨w.heap.size, 6, none⟩ = some (.int .i64 kg) ∧ w'.cell? ⟨w.heap.size, 7, none⟩ = some (.int .i64 kh)) (by kernel_rfl) ⟨x0, x1, x2, x3, x4, x5, x6, x7⟩ (fun hS => ?_)
  clear x0 x1 x2 x3 x4 x5 x6 x7
  refine takeL (i := 1) (v := ?_) rfl (by kernel_rfl) (by kernel_rfl) (by kernel_rfl) (by kernel_rfl) (by kernel_rfl) (fun _ _ _ h => h) (Or.inl ⟨by rfl, ?_⟩) (by assumption) ?_
  rotate_left
  · (intro w' hSw; (try dsimp only at hSw); go_simp; with_reducible rfl)
  try simp only [Act.put, List.setIfInBounds_toArray, List.set_cons_zero, List.set_cons_succ]
  refine takeL (i := 3) (v := ?_) rfl (by kernel_rfl) (by kernel_rfl) (by kernel_rfl) (by kernel_rfl) (by kernel_rfl) (fun _ _ _ h => h) (Or.inl ⟨by rfl, ?_⟩) (by assumption) ?_
  rotate_left
  · (intro w' hSw; (try dsimp only at hSw); go_simp; with_reducible rfl)
  try simp only [Act.put, List.setIfInBounds_toArray, List.set_cons_zero, List.set_cons_succ]
  refine takeL (i := 6) (v := ?_) rfl (by kernel_rfl) (by kernel_rfl) (by kernel_rfl) (by kernel_rfl) (by kernel_rfl) (fun _ _ _ h => h) (Or.inl ⟨by rfl, ?_⟩) (by assumption) ?_
  rotate_left
  · (intro w' hSw; (try dsimp only at hSw); go_simp; with_reducible rfl)
  try simp only [Act.put, List.setIfInBounds_toArray, List.set_cons_zero, List.set_cons_succ]
  refine takeL (i := 7) (v := ?_) rfl (by kernel_rfl) (by kernel_rfl) (by kernel_rfl) (by kernel_rfl) (by kernel_rfl) (fun _ _ _ h => h) (Or.inl ⟨by rfl, ?_⟩) (by assumption) ?_
  rotate_left
  · (intro w' hSw; (try dsimp only at hSw); go_simp; with_reducible rfl)
  try simp only [Act.put, List.setIfInBounds_toArray, List.set_cons_zero, List.set_cons_succ]
  refine twoL (i := 0) (j := 4) (by kernel_rfl) rfl rfl (fun K hK => ?_) (fun K hK => ?_)
  · go_simp
    have Xa := Lib.hid (show Lies (w3.alloc (.cells #[] 23)).drew w.heap.size 23 #[.int .i64 ((n : Int) + 1), .int .i64 kb, .int .i64 kc, .int .i64 kd, .int .i64 ke, .int .i64 kf, .int .i64 kg, .int .i64 kh] from (X3.out.alloc _).like rfl)
    have Ba := Lib.hid (show Below w.heap.size w (w3.alloc (.cells #[] 23)).drew from (B3.out.alloc B3.out.size _).drew)
    have Oa := Lib.hid (show (w3.alloc (.cells #[] 23)).drew.ownsRow (w.heap.size + 1) 23 8 (.slice (some ⟨w3.heap.size, 0, none⟩) 0 0) 0 (([] : List Ct).flatMap ccells) from floor_own (made_ct w3) X3.out.lt)
    have hsa := Lib.hid (show (w3.alloc (.cells #[] 23)).drew.heap.size = w3.heap.size + 1 by simp)
    have y0 : (w3.alloc (.cells #[] 23)).drew.cell? ⟨w.heap.size, 0, none⟩ = some (.int .i64 ((n : Int) + 1)) := Xa.out.cell 0
    have y1 : (w3.alloc (.cells #[] 23)).drew.cell? ⟨w.heap.size, 1, none⟩ = some (.int .i64 kb) := Xa.out.cell 1
    have y2 : (w3.alloc (.cells #[] 23)).drew.cell? ⟨w.heap.size, 2, none⟩ = some (.int .i64 kc) := Xa.out.cell 2
    have y3 : (w3.alloc (.cells #[] 23)).drew.cell? ⟨w.heap.size, 3, none⟩ = some (.int .i64 kd) := Xa.out.cell 3
    have y4 : (w3.alloc (.cells #[] 23)).drew.cell? ⟨w.heap.size, 4, none⟩ = some (.int .i64 ke) := Xa.out.cell 4
    have y5 : (w3.alloc (.cells #[] 23)).drew.cell? ⟨w.heap.size, 5, none⟩ = some (.int .i64 kf) := Xa.out.cell 5
    have y6 : (w3.alloc (.cells #[] 23)).drew.cell? ⟨w.heap.size, 6, none⟩ = some (.int .i64 kg) := Xa.out.cell 6
    have y7 : (w3.alloc (.cells #[] 23)).drew.cell? ⟨w.heap.size, 7, none⟩ = some (.int .i64 kh) := Xa.out.cell 7
    refine hK.out _ _ (fun _ => ⟨y0, y1, y2, y3, y4, y5, y6, y7⟩) ?_
    clear hK K
    try simp only [Act.put, List.setIfInBounds_toArray, List.set_cons_zero, List.set_cons_succ]
    have hS := And.intro y0 (And.intro y1 (And.intro y2 (And.intro y3 (And.intro y4 (And.intro y5 (And.intro y6 y7))))))
    clear y0 y1 y2 y3 y4 y5 y6 y7
    generalize (w3.alloc (.cells #[] 23)).drew = wa at *
    refine twoL (i := 2) (j := 4) (by kernel_rfl) rfl rfl (fun K hK => ?_) (fun K hK => ?_)
    · refine Ra.step_app ccells_len ccells_one Try.underlying34 hi0 hz0 hz1 hz2 rfl (by decide) rfl _ _ rfl Oa.out rfl (H.out _ Ba.out) rfl (by unfold maxLen; omega) (by omega) Xa.out.lt ?_
      intro q1 d1 wb ho1 hg1 _
      rw [Nat.zero_add] at ho1 ⊢
      rw [List.nil_append] at ho1
      have Xb := Lib.hid (Xa.out.grown hg1 (fun e => by
        have h1 := (own_lt Oa.out e.symm).1
        omega))
      have Bb := Lib.hid (Ba.out.grown hg1 Ba.out.size (fun k hk => Nat.le_of_succ_le (own_lt Oa.out hk).1))
      have Qb := Lib.hid ho1
      clear ho1 hg1
      have y0 : wb.cell? ⟨w.heap.size, 0, none⟩ = some (.int .i64 ((n : Int) + 1)) := Xb.out.cell 0
      have y1 : wb.cell? ⟨w.heap.size, 1, none⟩ = some (.int .i64 kb) := Xb.out.cell 1
      have y2 : wb.cell? ⟨w.heap.size, 2, none⟩ = some (.int .i64 kc) := Xb.out.cell 2
      have y3 : wb.cell? ⟨w.heap.size, 3, none⟩ = some (.int .i64 kd) := Xb.out.cell 3
      have y4 : wb.cell? ⟨w.heap.size, 4, none⟩ = some (.int .i64 ke) := Xb.out.cell 4
      have y5 : wb.cell? ⟨w.heap.size, 5, none⟩ = some (.int .i64 kf) := Xb.out.cell 5
      have y6 : wb.cell? ⟨w.heap.size, 6, none⟩ = some (.int .i64 kg) := Xb.out.cell 6
      have y7 : wb.cell? ⟨w.heap.size, 7, none⟩ = some (.int .i64 kh) := Xb.out.cell 7
      refine hK.out _ _ (fun _ => ⟨y0, y1, y2, y3, y4, y5, y6, y7⟩) ?_
      clear hK K
      try simp only [Act.put, List.setIfInBounds_toArray, List.set_cons_zero, List.set_cons_succ]
      have hS := And.intro y0 (And.intro y1 (And.intro y2 (And.intro y3 (And.intro y4 (And.intro y5 (And.intro y6 y7))))))
      clear y0 y1 y2 y3 y4 y5 y6 y7
      refine oneL (i := 4) (by kernel_rfl) rfl (fun K hK => ?_)
      go_simp
      have Xc := Lib.hid (show Lies (wb.alloc (.cells #[.int .i64 ((n : Int) + 1), .int .i64 kb, .int .i64 kc, .int .i64 kd, .int .i64 ke, .int .i64 kf, .int .i64 kg, .int .i64 kh] 23)) w.heap.size 23 #[.int .i64 ((n : Int) + 1), .int .i64 kb, .int .i64 kc, .int .i64 kd, .int .i64 ke, .int .i64 kf, .int .i64 kg, .int .i64 kh] from (Xb.out.alloc _).like rfl)
      have Bc := Lib.hid (show Below w.heap.size w (wb.alloc (.cells #[.int .i64 ((n : Int) + 1), .int .i64 kb, .int .i64 kc, .int .i64 kd, .int .i64 ke, .int .i64 kf, .int .i64 kg, .int .i64 kh] 23)) from (Bb.out.alloc Bb.out.size _))
      have Qc := Lib.hid (show (wb.alloc (.cells #[.int .i64 ((n : Int) + 1), .int .i64 kb, .int .i64 kc, .int .i64 kd, .int .i64 ke, .int .i64 kf, .int .i64 kg, .int .i64 kh] 23)).ownsRow (w.heap.size + 1) 23 8 (.slice q1 n d1) n (l.flatMap ccells) from Qb.out.alloc _)
      have Rc := Lib.hid (show Rw 8 ccells (wb.alloc (.cells #[.int .i64 ((n : Int) + 1), .int .i64 kb, .int .i64 kc, .int .i64 kd, .int .i64 ke, .int .i64 kf, .int .i64 kg, .int .i64 kh] 23)) (some ⟨wb.heap.size, 0, none⟩) 1 [(⟨(n : Int) + 1, kb, kc, kd, ke, kf, kg, kh⟩ : Ct)] from Ra.rw_one (k := 8) (enc := ccells) wb 23 (⟨(n : Int) + 1, kb, kc, kd, ke, kf, kg, kh⟩ : Ct))
      have hsc := Lib.hid (show (wb.alloc (.cells #[.int .i64 ((n : Int) + 1), .int .i64 kb, .int .i64 kc, .int .i64 kd, .int .i64 ke, .int .i64 kf, .int .i64 kg, .int .i64 kh] 23)).heap.size = wb.heap.size + 1 by simp)
      have y0 : (wb.alloc (.cells #[.int .i64 ((n : Int) + 1), .int .i64 kb, .int .i64 kc, .int .i64 kd, .int .i64 ke, .int .i64 kf, .int .i64 kg, .int .i64 kh] 23)).cell? ⟨w.heap.size, 0, none⟩ = some (.int .i64 ((n : Int) + 1)) := Xc.out.cell 0
      have y1 : (wb.alloc (.cells #[.int .i64 ((n : Int) + 1), .int .i64 kb, .int .i64 kc, .int .i64 kd, .int .i64 ke, .int .i64 kf, .int .i64 kg, .int .i64 kh] 23)).cell? ⟨w.heap.size, 1, none⟩ = some (.int .i64 kb) := Xc.out.cell 1
      have y2 : (wb.alloc (.cells #[.int .i64 ((n : Int) + 1), .int .i64 kb, .int .i64 kc, .int .i64 kd, .int .i64 ke, .int .i64 kf, .int .i64 kg, .int .i64 kh] 23)).cell? ⟨w.heap.size, 2, none⟩ = some (.int .i64 kc) := Xc.out.cell 2
      have y3 : (wb.alloc (.cells #[.int .i64 ((n : Int) + 1), .int .i64 kb, .int .i64 kc, .int .i64 kd, .int .i64 ke, .int .i64 kf, .int .i64 kg, .int .i64 kh] 23)).cell? ⟨w.heap.size, 3, none⟩ = some (.int .i64 kd) := Xc.out.cell 3
      have y4 : (wb.alloc (.cells #[.int .i64 ((n : Int) + 1), .int .i64 kb, .int .i64 kc, .int .i64 kd, .int .i64 ke, .int .i64 kf, .int .i64 kg, .int .i64 kh] 23)).cell? ⟨w.heap.size, 4, none⟩ = some (.int .i64 ke) := Xc.out.cell 4
      have y5 : (wb.alloc (.cells #[.int .i64 ((n : Int) + 1), .int .i64 kb, .int .i64 kc, .int .i64 kd, .int .i64 ke, .int .i64 kf, .int .i64 kg, .int .i64 kh] 23)).cell? ⟨w.heap.size, 5, none⟩ = some (.int .i64 kf) := Xc.out.cell 5
      have y6 : (wb.alloc (.cells #[.int .i64 ((n : Int) + 1), .int .i64 kb, .int .i64 kc, .int .i64 kd, .int .i64 ke, .int .i64 kf, .int .i64 kg, .int .i64 kh] 23)).cell? ⟨w.heap.size, 6, none⟩ = some (.int .i64 kg) := Xc.out.cell 6
      have y7 : (wb.alloc (.cells #[.int .i64 ((n : Int) + 1), .int .i64 kb, .int .i64 kc, .int .i64 kd, .int .i64 ke, .int .i64 kf, .int .i64 kg, .int .i64 kh] 23)).cell? ⟨w.heap.size, 7, none⟩ = some (.int .i64 kh) := Xc.out.cell 7
      refine hK.out _ _ (fun _ => ⟨y0, y1, y2, y3, y4, y5, y6, y7⟩) ?_
      clear hK K
      try simp only [Act.put, List.setIfInBounds_toArray, List.set_cons_zero, List.set_cons_succ]
      have hS := And.intro y0 (And.intro y1 (And.intro y2 (And.intro y3 (And.intro y4 (And.intro y5 (And.intro y6 y7))))))
      clear y0 y1 y2 y3 y4 y5 y6 y7
      generalize (wb.alloc (.cells #[.int .i64 ((n : Int) + 1), .int .i64 kb, .int .i64 kc, .int .i64 kd, .int .i64 ke, .int .i64 kf, .int .i64 kg, .int .i64 kh] 23)) = wc at *
      refine oneL (i := 5) (by kernel_rfl) rfl (fun K hK => ?_)
      refine Ra.step_app ccells_len ccells_one Try.underlying34 hi0 hz0 hz1 hz2 rfl (by decide) rfl _ _ rfl Qc.out rfl Rc.out rfl (by unfold maxLen; omega) (by omega) Xc.out.lt ?_
      intro q2 d2 wz ho2 hg2 _
      have BZ := Lib.hid (Bc.out.grown hg2 Bc.out.size (fun k hk => Nat.le_of_succ_le (own_lt Qc.out hk).1))
      have OZ := Lib.hid ho2
      have XZ := Lib.hid (Xc.out.grown hg2 (fun e => by
        have h1 := (own_lt Qc.out e.symm).1
        omega))
      clear ho2 hg2
      have y0 : wz.cell? ⟨w.heap.size, 0, none⟩ = some (.int .i64 ((n : Int) + 1)) := XZ.out.cell 0
      have y1 : wz.cell? ⟨w.heap.size, 1, none⟩ = some (.int .i64 kb) := XZ.out.cell 1
      have y2 : wz.cell? ⟨w.heap.size, 2, none⟩ = some (.int .i64 kc) := XZ.out.cell 2
      have y3 : wz.cell? ⟨w.heap.size, 3, none⟩ = some (.int .i64 kd) := XZ.out.cell 3
      have y4 : wz.cell? ⟨w.heap.size, 4, none⟩ = some (.int .i64 ke) := XZ.out.cell 4
      have y5 : wz.cell? ⟨w.heap.size, 5, none⟩ = some (.int .i64 kf) := XZ.out.cell 5
      have y6 : wz.cell? ⟨w.heap.size, 6, none⟩ = some (.int .i64 kg) := XZ.out.cell 6
      have y7 : wz.cell? ⟨w.heap.size, 7, none⟩ = some (.int .i64 kh) := XZ.out.cell 7
      refine hK.out _ _ (fun _ => ⟨y0, y1, y2, y3, y4, y5, y6, y7⟩) ?_
      clear hK K
      try simp only [Act.put, List.setIfInBounds_toArray, List.set_cons_zero, List.set_cons_succ]
      have hS := And.intro y0 (And.intro y1 (And.intro y2 (And.intro y3 (And.intro y4 (And.intro y5 (And.intro y6 y7))))))
      clear y0 y1 y2 y3 y4 y5 y6 y7
      refine takeL (i := 8) (v := ?_) rfl (by kernel_rfl) (by kernel_rfl) (by kernel_rfl) (by kernel_rfl) (by kernel_rfl) (fun _ _ _ h => h) (Or.inl ⟨by rfl, ?_⟩) (by assumption) ?_
      rotate_left
      · (intro w' hSw; (try dsimp only at hSw); go_simp; with_reducible rfl)
      try simp only [Act.put, List.setIfInBounds_toArray, List.set_cons_zero, List.set_cons_succ]
      refine takeL (i := 9) (v := ?_) rfl (by kernel_rfl) (by kernel_rfl) (by kernel_rfl) (by kernel_rfl) (by kernel_rfl) (fun _ _ _ h => h) (Or.inl ⟨by rfl, ?_⟩) (by assumption) ?_
      rotate_left
      · (intro w' hSw; (try dsimp only at hSw); go_simp; with_reducible rfl)
      try simp only [Act.put, List.setIfInBounds_toArray, List.set_cons_zero, List.set_cons_succ]
      refine takeL (i := 10) (v := ?_) rfl (by kernel_rfl) (by kernel_rfl) (by kernel_rfl) (by kernel_rfl) (by kernel_rfl) (fun _ _ _ h => h) (Or.inl ⟨by rfl, ?_⟩) (by assumption) ?_
      rotate_left
      · (intro w' hSw; (try dsimp only at hSw); go_simp; with_reducible rfl)
      try simp only [Act.put, List.setIfInBounds_toArray, List.set_cons_zero, List.set_cons_succ]
      refine doneO (by kernel_rfl) ?_ _
      clear hS
      go_wp2
      go_ret3
      exact ⟨q2, d2, rfl, floor_own OZ.out (Nat.le_succ _), BZ.out⟩
    · go_simp
      have Xe := Lib.hid (show Lies (wa.alloc (.cells #[.int .i64 ((n : Int) + 1), .int .i64 kb, .int .i64 kc, .int .i64 kd, .int .i64 ke, .int .i64 kf, .int .i64 kg, .int .i64 kh] 23)) w.heap.size 23 #[.int .i64 ((n : Int) + 1), .int .i64 kb, .int .i64 kc, .int .i64 kd, .int .i64 ke, .int .i64 kf, .int .i64 kg, .int .i64 kh] from (Xa.out.alloc _).like rfl)
      have Be := Lib.hid (show Below w.heap.size w (wa.alloc (.cells #[.int .i64 ((n : Int) + 1), .int .i64 kb, .int .i64 kc, .int .i64 kd, .int .i64 ke, .int .i64 kf, .int .i64 kg, .int .i64 kh] 23)) from (Ba.out.alloc Ba.out.size _))
      have Oe := Lib.hid (show (wa.alloc (.cells #[.int .i64 ((n : Int) + 1), .int .i64 kb, .int .i64 kc, .int .i64 kd, .int .i64 ke, .int .i64 kf, .int .i64 kg, .int .i64 kh] 23)).ownsRow (w.heap.size + 1) 23 8 (.slice (some ⟨w3.heap.size, 0, none⟩) 0 0) 0 (([] : List Ct).flatMap ccells) from Oa.out.alloc _)
      have Re := Lib.hid (show Rw 8 ccells (wa.alloc (.cells #[.int .i64 ((n : Int) + 1), .int .i64 kb, .int .i64 kc, .int .i64 kd, .int .i64 ke, .int .i64 kf, .int .i64 kg, .int .i64 kh] 23)) (some ⟨wa.heap.size, 0, none⟩) 1 [(⟨(n : Int) + 1, kb, kc, kd, ke, kf, kg, kh⟩ : Ct)] from Ra.rw_one (k := 8) (enc := ccells) wa 23 (⟨(n : Int) + 1, kb, kc, kd, ke, kf, kg, kh⟩ : Ct))
      have hse := Lib.hid (show (wa.alloc (.cells #[.int .i64 ((n : Int) + 1), .int .i64 kb, .int .i64 kc, .int .i64 kd, .int .i64 ke, .int .i64 kf, .int .i64 kg, .int .i64 kh] 23)).heap.size = wa.heap.size + 1 by simp)
      have y0 : (wa.alloc (.cells #[.int .i64 ((n : Int) + 1), .int .i64 kb, .int .i64 kc, .int .i64 kd, .int .i64 ke, .int .i64 kf, .int .i64 kg, .int .i64 kh] 23)).cell? ⟨w.heap.size, 0, none⟩ = some (.int .i64 ((n : Int) + 1)) := Xe.out.cell 0
      have y1 : (wa.alloc (.cells #[.int .i64 ((n : Int) + 1), .int .i64 kb, .int .i64 kc, .int .i64 kd, .int .i64 ke, .int .i64 kf, .int .i64 kg, .int .i64 kh] 23)).cell? ⟨w.heap.size, 1, none⟩ = some (.int .i64 kb) := Xe.out.cell 1
      have y2 : (wa.alloc (.cells #[.int .i64 ((n : Int) + 1), .int .i64 kb, .int .i64 kc, .int .i64 kd, .int .i64 ke, .int .i64 kf, .int .i64 kg, .int .i64 kh] 23)).cell? ⟨w.heap.size, 2, none⟩ = some (.int .i64 kc) := Xe.out.cell 2
      have y3 : (wa.alloc (.cells #[.int .i64 ((n : Int) + 1), .int .i64 kb, .int .i64 kc, .int .i64 kd, .int .i64 ke, .int .i64 kf, .int .i64 kg, .int .i64 kh] 23)).cell? ⟨w.heap.size, 3, none⟩ = some (.int .i64 kd) := Xe.out.cell 3
      have y4 : (wa.alloc (.cells #[.int .i64 ((n : Int) + 1), .int .i64 kb, .int .i64 kc, .int .i64 kd, .int .i64 ke, .int .i64 kf, .int .i64 kg, .int .i64 kh] 23)).cell? ⟨w.heap.size, 4, none⟩ = some (.int .i64 ke) := Xe.out.cell 4
      have y5 : (wa.alloc (.cells #[.int .i64 ((n : Int) + 1), .int .i64 kb, .int .i64 kc, .int .i64 kd, .int .i64 ke, .int .i64 kf, .int .i64 kg, .int .i64 kh] 23)).cell? ⟨w.heap.size, 5, none⟩ = some (.int .i64 kf) := Xe.out.cell 5
      have y6 : (wa.alloc (.cells #[.int .i64 ((n : Int) + 1), .int .i64 kb, .int .i64 kc, .int .i64 kd, .int .i64 ke, .int .i64 kf, .int .i64 kg, .int .i64 kh] 23)).cell? ⟨w.heap.size, 6, none⟩ = some (.int .i64 kg) := Xe.out.cell 6
      have y7 : (wa.alloc (.cells #[.int .i64 ((n : Int) + 1), .int .i64 kb, .int .i64 kc, .int .i64 kd, .int .i64 ke, .int .i64 kf, .int .i64 kg, .int .i64 kh] 23)).cell? ⟨w.heap.size, 7, none⟩ = some (.int .i64 kh) := Xe.out.cell 7
      refine hK.out _ _ (fun _ => ⟨y0, y1, y2, y3, y4, y5, y6, y7⟩) ?_
      clear hK K
      try simp only [Act.put, List.setIfInBounds_toArray, List.set_cons_zero, List.set_cons_succ]
      have hS := And.intro y0 (And.intro y1 (And.intro y2 (And.intro y3 (And.intro y4 (And.intro y5 (And.intro y6 y7))))))
      clear y0 y1 y2 y3 y4 y5 y6 y7
      generalize (wa.alloc (.cells #[.int .i64 ((n : Int) + 1), .int .i64 kb, .int .i64 kc, .int .i64 kd, .int .i64 ke, .int .i64 kf, .int .i64 kg, .int .i64 kh] 23)) = we at *
      refine oneL (i := 2) (by kernel_rfl) rfl (fun K hK => ?_)
      refine Ra.step_app ccells_len ccells_one Try.underlying34 hi0 hz0 hz1 hz2 rfl (by decide) rfl _ _ rfl Oe.out rfl (H.out _ Be.out) rfl (by unfold maxLen; omega) (by omega) Xe.out.lt ?_
      intro q1 d1 wf ho1 hg1 _
      rw [Nat.zero_add] at ho1 ⊢
      rw [List.nil_append] at ho1
      have Xf := Lib.hid (Xe.out.grown hg1 (fun e => by
        have h1 := (own_lt Oe.out e.symm).1
        omega))
      have Bf := Lib.hid (Be.out.grown hg1 Be.out.size (fun k hk => Nat.le_of_succ_le (own_lt Oe.out hk).1))
      have Rf := Lib.hid (rw_grown ccells_len Re.out hg1 (fun e => by
        have h1 : wa.heap.size = w3.heap.size := Option.some.inj e
        have h2 := hsa.out
        omega))
      have Qf := Lib.hid ho1
      clear ho1 hg1
      have y0 : wf.cell? ⟨w.heap.size, 0, none⟩ = some (.int .i64 ((n : Int) + 1)) := Xf.out.cell 0
      have y1 : wf.cell? ⟨w.heap.size, 1, none⟩ = some (.int .i64 kb) := Xf.out.cell 1
      have y2 : wf.cell? ⟨w.heap.size, 2, none⟩ = some (.int .i64 kc) := Xf.out.cell 2
      have y3 : wf.cell? ⟨w.heap.size, 3, none⟩ = some (.int .i64 kd) := Xf.out.cell 3
      have y4 : wf.cell? ⟨w.heap.size, 4, none⟩ = some (.int .i64 ke) := Xf.out.cell 4
      have y5 : wf.cell? ⟨w.heap.size, 5, none⟩ = some (.int .i64 kf) := Xf.out.cell 5
      have y6 : wf.cell? ⟨w.heap.size, 6, none⟩ = some (.int .i64 kg) := Xf.out.cell 6
      have y7 : wf.cell? ⟨w.heap.size, 7, none⟩ = some (.int .i64 kh) := Xf.out.cell 7
      refine hK.out _ _ (fun _ => ⟨y0, y1, y2, y3, y4, y5, y6, y7⟩) ?_
      clear hK K
      try simp only [Act.put, List.setIfInBounds_toArray, List.set_cons_zero, List.set_cons_succ]
      have hS := And.intro y0 (And.intro y1 (And.intro y2 (And.intro y3 (And.intro y4 (And.intro y5 (And.intro y6 y7))))))
      clear y0 y1 y2 y3 y4 y5 y6 y7
      refine oneL (i := 5) (by kernel_rfl) rfl (fun K hK => ?_)
      refine Ra.step_app ccells_len ccells_one Try.underlying34 hi0 hz0 hz1 hz2 rfl (by decide) rfl _ _ rfl Qf.out rfl Rf.out rfl (by unfold maxLen; omega) (by omega) Xf.out.lt ?_
      intro q2 d2 wz ho2 hg2 _
      have BZ := Lib.hid (Bf.out.grown hg2 Bf.out.size (fun k hk => Nat.le_of_succ_le (own_lt Qf.out hk).1))
      have OZ := Lib.hid ho2
      have XZ := Lib.hid (Xf.out.grown hg2 (fun e => by
        have h1 := (own_lt Qf.out e.symm).1
        omega))
      clear ho2 hg2
      have y0 : wz.cell? ⟨w.heap.size, 0, none⟩ = some (.int .i64 ((n : Int) + 1)) := XZ.out.cell 0
      have y1 : wz.cell? ⟨w.heap.size, 1, none⟩ = some (.int .i64 kb) := XZ.out.cell 1
      have y2 : wz.cell? ⟨w.heap.size, 2, none⟩ = some (.int .i64 kc) := XZ.out.cell 2
      have y3 : wz.cell? ⟨w.heap.size, 3, none⟩ = some (.int .i64 kd) := XZ.out.cell 3
      have y4 : wz.cell? ⟨w.heap.size, 4, none⟩ = some (.int .i64 ke) := XZ.out.cell 4
      have y5 : wz.cell? ⟨w.heap.size, 5, none⟩ = some (.int .i64 kf) := XZ.out.cell 5
      have y6 : wz.cell? ⟨w.heap.size, 6, none⟩ = some (.int .i64 kg) := XZ.out.cell 6
      have y7 : wz.cell? ⟨w.heap.size, 7, none⟩ = some (.int .i64 kh) := XZ.out.cell 7
      refine hK.out _ _ (fun _ => ⟨y0, y1, y2, y3, y4, y5, y6, y7⟩) ?_
      clear hK K
      try simp only [Act.put, List.setIfInBounds_toArray, List.set_cons_zero, List.set_cons_succ]
      have hS := And.intro y0 (And.intro y1 (And.intro y2 (And.intro y3 (And.intro y4 (And.intro y5 (And.intro y6 y7))))))
      clear y0 y1 y2 y3 y4 y5 y6 y7
      refine takeL (i := 8) (v := ?_) rfl (by kernel_rfl) (by kernel_rfl) (by kernel_rfl) (by kernel_rfl) (by kernel_rfl) (fun _ _ _ h => h) (Or.inl ⟨by rfl, ?_⟩) (by assumption) ?_
      rotate_left
      · (intro w' hSw; (try dsimp only at hSw); go_simp; with_reducible rfl)
      try simp only [Act.put, List.setIfInBounds_toArray, List.set_cons_zero, List.set_cons_succ]
      refine takeL (i := 9) (v := ?_) rfl (by kernel_rfl) (by kernel_rfl) (by kernel_rfl) (by kernel_rfl) (by kernel_rfl) (fun _ _ _ h => h) (Or.inl ⟨by rfl, ?_⟩) (by assumption) ?_
      rotate_left
      · (intro w' hSw; (try dsimp only at hSw); go_simp; with_reducible rfl)
      try simp only [Act.put, List.setIfInBounds_toArray, List.set_cons_zero, List.set_cons_succ]
      refine takeL (i := 10) (v := ?_) rfl (by kernel_rfl) (by kernel_rfl) (by kernel_rfl) (by kernel_rfl) (by kernel_rfl) (fun _ _ _ h => h) (Or.inl ⟨by rfl, ?_⟩) (by assumption) ?_
      rotate_left
      · (intro w' hSw; (try dsimp only at hSw); go_simp; with_reducible rfl)
      try simp only [Act.put, List.setIfInBounds_toArray, List.set_cons_zero, List.set_cons_succ]
      refine doneO (by kernel_rfl) ?_ _
      clear hS
      go_wp2
      go_ret3
      exact ⟨q2, d2, rfl, floor_own OZ.out (Nat.le_succ _), BZ.out⟩
  · go_simp
    have Xg := Lib.hid (show Lies (w3.alloc (.cells #[.int .i64 ((n : Int) + 1), .int .i64 kb, .int .i64 kc, .int .i64 kd, .int .i64 ke, .int .i64 kf, .int .i64 kg, .int .i64 kh] 23)).drew w.heap.size 23 #[.int .i64 ((n : Int) + 1), .int .i64 kb, .int .i64 kc, .int .i64 kd, .int .i64 ke, .int .i64 kf, .int .i64 kg, .int .i64 kh] from (X3.out.alloc _).like rfl)
    have Bg := Lib.hid (show Below w.heap.size w (w3.alloc (.cells #[.int .i64 ((n : Int) + 1), .int .i64 kb, .int .i64 kc, .int .i64 kd, .int .i64 ke, .int .i64 kf, .int .i64 kg, .int .i64 kh] 23)).drew from (B3.out.alloc B3.out.size _).drew)
    have Rg := Lib.hid (show Rw 8 ccells (w3.alloc (.cells #[.int .i64 ((n : Int) + 1), .int .i64 kb, .int .i64 kc, .int .i64 kd, .int .i64 ke, .int .i64 kf, .int .i64 kg, .int .i64 kh] 23)).drew (some ⟨w3.heap.size, 0, none⟩) 1 [(⟨(n : Int) + 1, kb, kc, kd, ke, kf, kg, kh⟩ : Ct)] from Ra.rw_one (k := 8) (enc := ccells) w3 23 (⟨(n : Int) + 1, kb, kc, kd, ke, kf, kg, kh⟩ : Ct))
    have hsg := Lib.hid (show (w3.alloc (.cells #[.int .i64 ((n : Int) + 1), .int .i64 kb, .int .i64 kc, .int .i64 kd, .int .i64 ke, .int .i64 kf, .int .i64 kg, .int .i64 kh] 23)).drew.heap.size = w3.heap.size + 1 by simp)
    have y0 : (w3.alloc (.cells #[.int .i64 ((n : Int) + 1), .int .i64 kb, .int .i64 kc, .int .i64 kd, .int .i64 ke, .int .i64 kf, .int .i64 kg, .int .i64 kh] 23)).drew.cell? ⟨w.heap.size, 0, none⟩ = some (.int .i64 ((n : Int) + 1)) := Xg.out.cell 0
    have y1 : (w3.alloc (.cells #[.int .i64 ((n : Int) + 1), .int .i64 kb, .int .i64 kc, .int .i64 kd, .int .i64 ke, .int .i64 kf, .int .i64 kg, .int .i64 kh] 23)).drew.cell? ⟨w.heap.size, 1, none⟩ = some (.int .i64 kb) := Xg.out.cell 1
    have y2 : (w3.alloc (.cells #[.int .i64 ((n : Int) + 1), .int .i64 kb, .int .i64 kc, .int .i64 kd, .int .i64 ke, .int .i64 kf, .int .i64 kg, .int .i64 kh] 23)).drew.cell? ⟨w.heap.size, 2, none⟩ = some (.int .i64 kc) := Xg.out.cell 2
    have y3 : (w3.alloc (.cells #[.int .i64 ((n : Int) + 1), .int .i64 kb, .int .i64 kc, .int .i64 kd, .int .i64 ke, .int .i64 kf, .int .i64 kg, .int .i64 kh] 23)).drew.cell? ⟨w.heap.size, 3, none⟩ = some (.int .i64 kd) := Xg.out.cell 3
    have y4 : (w3.alloc (.cells #[.int .i64 ((n : Int) + 1), .int .i64 kb, .int .i64 kc, .int .i64 kd, .int .i64 ke, .int .i64 kf, .int .i64 kg, .int .i64 kh] 23)).drew.cell? ⟨w.heap.size, 4, none⟩ = some (.int .i64 ke) := Xg.out.cell 4
    have y5 : (w3.alloc (.cells #[.int .i64 ((n : Int) + 1), .int .i64 kb, .int .i64 kc, .int .i64 kd, .int .i64 ke, .int .i64 kf, .int .i64 kg, .int .i64 kh] 23)).drew.cell? ⟨w.heap.size, 5, none⟩ = some (.int .i64 kf) := Xg.out.cell 5
    have y6 : (w3.alloc (.cells #[.int .i64 ((n : Int) + 1), .int .i64 kb, .int .i64 kc, .int .i64 kd, .int .i64 ke, .int .i64 kf, .int .i64 kg, .int .i64 kh] 23)).drew.cell? ⟨w.heap.size, 6, none⟩ = some (.int .i64 kg) := Xg.out.cell 6
    have y7 : (w3.alloc (.cells #[.int .i64 ((n : Int) + 1), .int .i64 kb, .int .i64 kc, .int .i64 kd, .int .i64 ke, .int .i64 kf, .int .i64 kg, .int .i64 kh] 23)).drew.cell? ⟨w.heap.size, 7, none⟩ = some (.int .i64 kh) := Xg.out.cell 7
    refine hK.out _ _ (fun _ => ⟨y0, y1, y2, y3, y4, y5, y6, y7⟩) ?_
    clear hK K
    try simp only [Act.put, List.setIfInBounds_toArray, List.set_cons_zero, List.set_cons_succ]
    have hS := And.intro y0 (And.intro y1 (And.intro y2 (And.intro y3 (And.intro y4 (And.intro y5 (And.intro y6 y7))))))
    clear y0 y1 y2 y3 y4 y5 y6 y7
    generalize (w3.alloc (.cells #[.int .i64 ((n : Int) + 1), .int .i64 kb, .int .i64 kc, .int .i64 kd, .int .i64 ke, .int .i64 kf, .int .i64 kg, .int .i64 kh] 23)).drew = wg at *
    refine oneL (i := 0) (by kernel_rfl) rfl (fun K hK => ?_)
    go_simp
    have Xh := Lib.hid (show Lies (wg.alloc (.cells #[] 23)) w.heap.size 23 #[.int .i64 ((n : Int) + 1), .int .i64 kb, .int .i64 kc, .int .i64 kd, .int .i64 ke, .int .i64 kf, .int .i64 kg, .int .i64 kh] from (Xg.out.alloc _).like rfl)
    have Bh := Lib.hid (show Below w.heap.size w (wg.alloc (.cells #[] 23)) from (Bg.out.alloc Bg.out.size _))
    have Oh := Lib.hid (show (wg.alloc (.cells #[] 23)).ownsRow (w.heap.size + 1) 23 8 (.slice (some ⟨wg.heap.size, 0, none⟩) 0 0) 0 (([] : List Ct).flatMap ccells) from floor_own (made_ct wg) Xg.out.lt)
    have Rh := Lib.hid (show Rw 8 ccells (wg.alloc (.cells #[] 23)) (some ⟨w3.heap.size, 0, none⟩) 1 [(⟨(n : Int) + 1, kb, kc, kd, ke, kf, kg, kh⟩ : Ct)] from Rg.out.keep ccells_len (alloc_below wg _))
    have hsh := Lib.hid (show (wg.alloc (.cells #[] 23)).heap.size = wg.heap.size + 1 by simp)
    have y0 : (wg.alloc (.cells #[] 23)).cell? ⟨w.heap.size, 0, none⟩ = some (.int .i64 ((n : Int) + 1)) := Xh.out.cell 0
    have y1 : (wg.alloc (.cells #[] 23)).cell? ⟨w.heap.size, 1, none⟩ = some (.int .i64 kb) := Xh.out.cell 1
    have y2 : (wg.alloc (.cells #[] 23)).cell? ⟨w.heap.size, 2, none⟩ = some (.int .i64 kc) := Xh.out.cell 2
    have y3 : (wg.alloc (.cells #[] 23)).cell? ⟨w.heap.size, 3, none⟩ = some (.int .i64 kd) := Xh.out.cell 3
    have y4 : (wg.alloc (.cells #[] 23)).cell? ⟨w.heap.size, 4, none⟩ = some (.int .i64 ke) := Xh.out.cell 4
    have y5 : (wg.alloc (.cells #[] 23)).cell? ⟨w.heap.size, 5, none⟩ = some (.int .i64 kf) := Xh.out.cell 5
    have y6 : (wg.alloc (.cells #[] 23)).cell? ⟨w.heap.size, 6, none⟩ = some (.int .i64 kg) := Xh.out.cell 6
    have y7 : (wg.alloc (.cells #[] 23)).cell? ⟨w.heap.size, 7, none⟩ = some (.int .i64 kh) := Xh.out.cell 7
    refine hK.out _ _ (fun _ => ⟨y0, y1, y2, y3, y4, y5, y6, y7⟩) ?_
    clear hK K
    try simp only [Act.put, List.setIfInBounds_toArray, List.set_cons_zero, List.set_cons_succ]
    have hS := And.intro y0 (And.intro y1 (And.intro y2 (And.intro y3 (And.intro y4 (And.intro y5 (And.intro y6 y7))))))
    clear y0 y1 y2 y3 y4 y5 y6 y7
    generalize (wg.alloc (.cells #[] 23)) = wh at *
    refine oneL (i := 2) (by kernel_rfl) rfl (fun K hK => ?_)
    refine Ra.step_app ccells_len ccells_one Try.underlying34 hi0 hz0 hz1 hz2 rfl (by decide) rfl _ _ rfl Oh.out rfl (H.out _ Bh.out) rfl (by unfold maxLen; omega) (by omega) Xh.out.lt ?_
    intro q1 d1 wi ho1 hg1 _
    rw [Nat.zero_add] at ho1 ⊢
    rw [List.nil_append] at ho1
    have Xi := Lib.hid (Xh.out.grown hg1 (fun e => by
      have h1 := (own_lt Oh.out e.symm).1
      omega))
    have Bi := Lib.hid (Bh.out.grown hg1 Bh.out.size (fun k hk => Nat.le_of_succ_le (own_lt Oh.out hk).1))
    have Ri := Lib.hid (rw_grown ccells_len Rh.out hg1 (fun e => by
      have h1 : w3.heap.size = wg.heap.size := Option.some.inj e
      have h2 := hsg.out
      omega))
    have Qi := Lib.hid ho1
    clear ho1 hg1
    have y0 : wi.cell? ⟨w.heap.size, 0, none⟩ = some (.int .i64 ((n : Int) + 1)) := Xi.out.cell 0
    have y1 : wi.cell? ⟨w.heap.size, 1, none⟩ = some (.int .i64 kb) := Xi.out.cell 1
    have y2 : wi.cell? ⟨w.heap.size, 2, none⟩ = some (.int .i64 kc) := Xi.out.cell 2
    have y3 : wi.cell? ⟨w.heap.size, 3, none⟩ = some (.int .i64 kd) := Xi.out.cell 3
    have y4 : wi.cell? ⟨w.heap.size, 4, none⟩ = some (.int .i64 ke) := Xi.out.cell 4
    have y5 : wi.cell? ⟨w.heap.size, 5, none⟩ = some (.int .i64 kf) := Xi.out.cell 5
    have y6 : wi.cell? ⟨w.heap.size, 6, none⟩ = some (.int .i64 kg) := Xi.out.cell 6
    have y7 : wi.cell? ⟨w.heap.size, 7, none⟩ = some (.int .i64 kh) := Xi.out.cell 7
    refine hK.out _ _ (fun _ => ⟨y0, y1, y2, y3, y4, y5, y6, y7⟩) ?_
    clear hK K
    try simp only [Act.put, List.setIfInBounds_toArray, List.set_cons_zero, List.set_cons_succ]
    have hS := And.intro y0 (And.intro y1 (And.intro y2 (And.intro y3 (And.intro y4 (And.intro y5 (And.intro y6 y7))))))
    clear y0 y1 y2 y3 y4 y5 y6 y7
    refine oneL (i := 5) (by kernel_rfl) rfl (fun K hK => ?_)
    refine Ra.step_app ccells_len ccells_one Try.underlying34 hi0 hz0 hz1 hz2 rfl (by decide) rfl _ _ rfl Qi.out rfl Ri.out rfl (by unfold maxLen; omega) (by omega) Xi.out.lt ?_
    intro q2 d2 wz ho2 hg2 _
    have BZ := Lib.hid (Bi.out.grown hg2 Bi.out.size (fun k hk => Nat.le_of_succ_le (own_lt Qi.out hk).1))
    have OZ := Lib.hid ho2
    have XZ := Lib.hid (Xi.out.grown hg2 (fun e => by
      have h1 := (own_lt Qi.out e.symm).1
      omega))
    clear ho2 hg2
    have y0 : wz.cell? ⟨w.heap.size, 0, none⟩ = some (.int .i64 ((n : Int) + 1)) := XZ.out.cell 0
    have y1 : wz.cell? ⟨w.heap.size, 1, none⟩ = some (.int .i64 kb) := XZ.out.cell 1
    have y2 : wz.cell? ⟨w.heap.size, 2, none⟩ = some (.int .i64 kc) := XZ.out.cell 2
    have y3 : wz.cell? ⟨w.heap.size, 3, none⟩ = some (.int .i64 kd) := XZ.out.cell 3
    have y4 : wz.cell? ⟨w.heap.size, 4, none⟩ = some (.int .i64 ke) := XZ.out.cell 4
    have y5 : wz.cell? ⟨w.heap.size, 5, none⟩ = some (.int .i64 kf) := XZ.out.cell 5
    have y6 : wz.cell? ⟨w.heap.size, 6, none⟩ = some (.int .i64 kg) := XZ.out.cell 6
    have y7 : wz.cell? ⟨w.heap.size, 7, none⟩ = some (.int .i64 kh) := XZ.out.cell 7
    refine hK.out _ _ (fun _ => ⟨y0, y1, y2, y3, y4, y5, y6, y7⟩) ?_
    clear hK K
    try simp only [Act.put, List.setIfInBounds_toArray, List.set_cons_zero, List.set_cons_succ]
    have hS := And.intro y0 (And.intro y1 (And.intro y2 (And.intro y3 (And.intro y4 (And.intro y5 (And.intro y6 y7))))))
    clear y0 y1 y2 y3 y4 y5 y6 y7
    refine takeL (i := 8) (v := ?_) rfl (by kernel_rfl) (by kernel_rfl) (by kernel_rfl) (by kernel_rfl) (by kernel_rfl) (fun _ _ _ h => h) (Or.inl ⟨by rfl, ?_⟩) (by assumption) ?_
    rotate_left
    · (intro w' hSw; (try dsimp only at hSw); go_simp; with_reducible rfl)
    try simp only [Act.put, List.setIfInBounds_toArray, List.set_cons_zero, List.set_cons_succ]
    refine takeL (i := 9) (v := ?_) rfl (by kernel_rfl) (by kernel_rfl) (by kernel_rfl) (by kernel_rfl) (by kernel_rfl) (fun _ _ _ h => h) (Or.inl ⟨by rfl, ?_⟩) (by assumption) ?_
    rotate_left
    · (intro w' hSw; (try dsimp only at hSw); go_simp; with_reducible rfl)
    try simp only [Act.put, List.setIfInBounds_toArray, List.set_cons_zero, List.set_cons_succ]
    refine takeL (i := 10) (v := ?_) rfl (by kernel_rfl) (by kernel_rfl) (by kernel_rfl) (by kernel_rfl) (by kernel_rfl) (fun _ _ _ h => h) (Or.inl ⟨by rfl, ?_⟩) (by assumption) ?_
    rotate_left
    · (intro w' hSw; (try dsimp only at hSw); go_simp; with_reducible rfl)
    try simp only [Act.put, List.setIfInBounds_toArray, List.set_cons_zero, List.set_cons_succ]
    refine doneO (by kernel_rfl) ?_ _
    clear hS
    go_wp2
    go_ret3
    exact ⟨q2, d2, rfl, floor_own OZ.out (Nat.le_succ _), BZ.out⟩
set_option maxRecDepth 100000 in
set_option maxHeartbeats 8000000 in
theorem r17issue_no (p : Option Addr) (n c : Nat) (x : Ct) (w : World) (hr : rightB x = false) :
    Calls Try.prog 16 #[.slice p n c, cval x] w fun e w' => e = .returned (.tuple #[.slice p n c, .int .i64 0, .int .i64 1]) ∧ Below w.heap.size w w' := by
  have R := Lib.hid (fun W => r17right_any x W)
  rw [hr] at R
  obtain ⟨ka, kb, kc, kd, ke, kf, kg, kh⟩ := x
  simp only [cval] at R ⊢
  have B0 := Lib.hid (alloc_below w (.cells #[.int .i64 ka, .int .i64 kb, .int .i64 kc, .int .i64 kd, .int .i64 ke, .int .i64 kf, .int .i64 kg, .int .i64 kh] 23))
  have X0 := Lib.hid (Lies.new w 23 #[.int .i64 ka, .int .i64 kb, .int .i64 kc, .int .i64 kd, .int .i64 ke, .int .i64 kf, .int .i64 kg, .int .i64 kh])
  have x0 : (w.alloc (.cells #[.int .i64 ka, .int .i64 kb, .int .i64 kc, .int .i64 kd, .int .i64 ke, .int .i64 kf, .int .i64 kg, .int .i64 kh] 23)).cell? ⟨w.heap.size, 0, none⟩ = some (.int .i64 ka) := X0.out.cell 0
  have x1 : (w.alloc (.cells #[.int .i64 ka, .int .i64 kb, .int .i64 kc, .int .i64 kd, .int .i64 ke, .int .i64 kf, .int .i64 kg, .int .i64 kh] 23)).cell? ⟨w.heap.size, 1, none⟩ = some (.int .i64 kb) := X0.out.cell 1
  have x2 : (w.alloc (.cells #[.int .i64 ka, .int .i64 kb, .int .i64 kc, .int .i64 kd, .int .i64 ke, .int .i64 kf, .int .i64 kg, .int .i64 kh] 23)).cell? ⟨w.heap.size, 2, none⟩ = some (.int .i64 kc) := X0.out.cell 2
  have x3 : (w.alloc (.cells #[.int .i64 ka, .int .i64 kb, .int .i64 kc, .int .i64 kd, .int .i64 ke, .int .i64 kf, .int .i64 kg, .int .i64 kh] 23)).cell? ⟨w.heap.size, 3, none⟩ = some (.int .i64 kd) := X0.out.cell 3
  have x4 : (w.alloc (.cells #[.int .i64 ka, .int .i64 kb, .int .i64 kc, .int .i64 kd, .int .i64 ke, .int .i64 kf, .int .i64 kg, .int .i64 kh] 23)).cell? ⟨w.heap.size, 4, none⟩ = some (.int .i64 ke) := X0.out.cell 4
  have x5 : (w.alloc (.cells #[.int .i64 ka, .int .i64 kb, .int .i64 kc, .int .i64 kd, .int .i64 ke, .int .i64 kf, .int .i64 kg, .int .i64 kh] 23)).cell? ⟨w.heap.size, 5, none⟩ = some (.int .i64 kf) := X0.out.cell 5
  have x6 : (w.alloc (.cells #[.int .i64 ka, .int .i64 kb, .int .i64 kc, .int .i64 kd, .int .i64 ke, .int .i64 kf, .int .i64 kg, .int .i64 kh] 23)).cell? ⟨w.heap.size, 6, none⟩ = some (.int .i64 kg) := X0.out.cell 6
  have x7 : (w.alloc (.cells #[.int .i64 ka, .int .i64 kb, .int .i64 kc, .int .i64 kd, .int .i64 ke, .int .i64 kf, .int .i64 kg, .int .i64 kh] 23)).cell? ⟨w.heap.size, 7, none⟩ = some (.int .i64 kh) := X0.out.cell 7
  clear hr X0
  go_enter Try.func16, Try.ntmps16
  go_wp2_with fail
  refine (R.out _).mono ?_
  rintro e w2 ⟨rfl, hb⟩
  have B2 := Lib.hid (B0.out.trans (hb.mono B0.out.size))
  clear hb B0 R x0 x1 x2 x3 x4 x5 x6 x7
  go_wp2
  go_ret3
  exact ⟨rfl, B2.out⟩
/-- A list's block. -/
def Bq (q : Option Addr) (m : Nat) (k : Nat) : Prop := 0 < m ∧ ∃ a, q = some a ∧ a.block = k
theorem own_bq {w : World} {B m d : Nat} {q : Option Addr} {t : TypeId} {xs : List Value} (h : w.ownsRow B t 8 (.slice q m d) m xs) : ∀ k, Bq q m k → B ≤ k := by
  rintro k ⟨h0, a, rfl, rfl⟩
  obtain ⟨b, c, e, h1, _⟩ := own_some h h0
  injection e with e
  rw [Option.some.inj e]
  exact h1
theorem own_cap {w : World} {B k m d : Nat} {q : Option Addr} {t : TypeId} {xs : List Value} (h : w.ownsRow B t k (.slice q m d) m xs) : m ≤ d := by
  rcases h.2 with ⟨e, rfl⟩ | ⟨g, cap, cur, e, _, _, hn, _⟩
  · exact Nat.zero_le _
  · injection e with _ _ e
    omega
/-- What a list becomes: it is told, as it was, or in new memory. -/
def Told (w : World) (p : Option Addr) (n : Nat) (l : List Ct) (q : Option Addr) (m d : Nat) (w' : World) : Prop := Rw 8 ccells w' q m l ∧ m ≤ d ∧ (∀ k, Bq q m k → Bq p n k ∨ w.heap.size ≤ k) ∧ Below w.heap.size w w'
theorem r17issue_any (p : Option Addr) (n c : Nat) (l : List Ct) (x : Ct) (w : World) (h : Rw 8 ccells w p n l) (hn : n ≤ 1000000) (hc : n ≤ c) :
    Calls Try.prog 16 #[.slice p n c, cval x] w fun e w' => ∃ q m d, e = .returned (.tuple #[.slice q m d, .int .i64 (issueF l x).2.1, .int .i64 (issueF l x).2.2]) ∧ Told w p n (issueF l x).1 q m d w' := by
  have hl := h.1
  unfold issueF
  cases hr : rightB x with
  | false =>
    rw [if_neg Bool.false_ne_true]
    exact (r17issue_no p n c x w hr).mono fun e w' ⟨he, hb⟩ => ⟨p, n, c, he, h.keep ccells_len hb, hc, fun _ hk => .inl hk, hb⟩
  | true =>
    rw [if_pos rfl, hl]
    refine (r17issue_yes p n c l x w h hn hr).mono ?_
    rintro e w' ⟨q, d, he, ho, hb⟩
    exact ⟨q, n + 1, d, he, own_ct ho (by simp [hl]), own_cap ho, fun k hk => .inr (own_bq ho k hk), hb⟩
end Ce
end Go.Proofs.Ytklhapekfgcplaa
