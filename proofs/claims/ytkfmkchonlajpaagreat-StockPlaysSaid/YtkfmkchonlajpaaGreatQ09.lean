/- The live question of layer 10's laws: it returns true. Condition: the contracts of package master. The live question of layer 12's laws: it returns true. Condition: the contracts of packages master and stock. Walks over the document's answer of layer 10: one more (Zone). No condition but those written. Walks over the document's answer of layer 10: one more (Product). No condition but those written. The document's answer of layer 10: one more, whole. No condition but those written. MasterTells' walk. Condition: the contracts of package master. -/
import Derived.Test.YtkfmkchonlajpaaGreatQ03
import Derived.Test.YtkfmkchonlajpaaGreatQ05
import Derived.BigQuiet
import Derived.Deep.QuietTactic
import Derived.Test.YtkfmkchonlajpaaGreatQ07
import Derived.Deep.RegionHeld3
namespace Go.Proofs.YtkfmkchonlajpaaGreat
open Go.RowKit

namespace Ms
theorem step_Z (I : Face) {w W : World} {h : Nat} {F : Nat → Prop} {Z Z' : List Zn} {P : List Pd} {z : Zn} {n : Nat} (hb : Below w.heap.size w W) (hd : I.DB W w.heap.size h F Z P) (hG : GoodZ Z) (hL : Z.length ≤ 1000) (e : addZ Z z = (n, Z')) (i : Int) (hi : i = n) :
    Calls Tryz.prog 19 #[.pointer (some ⟨h, 0, none⟩), zval z] W fun e w' => e = .returned (.int .i64 i) ∧ ∃ F', I.DB w' w.heap.size h F' Z' P ∧ Below w.heap.size w w' := by
  refine (I.addZ _ h F Z P z W hd hG hL).mono fun e2 w' ⟨he, hF⟩ => ?_
  rw [e] at he hF
  subst hi
  exact ⟨he, I.next_below hd hb hb.size hF⟩
theorem step_P (I : Face) {w W : World} {h : Nat} {F : Nat → Prop} {Z : List Zn} {P P' : List Pd} {p : Pd} {n : Nat} (hb : Below w.heap.size w W) (hd : I.DB W w.heap.size h F Z P) (hG : GoodP P) (hL : P.length ≤ 1000) (e : addP P p = (n, P')) (i : Int) (hi : i = n) :
    Calls Tryz.prog 20 #[.pointer (some ⟨h, 0, none⟩), pval p] W fun e w' => e = .returned (.int .i64 i) ∧ ∃ F', I.DB w' w.heap.size h F' Z P' ∧ Below w.heap.size w w' := by
  refine (I.addP _ h F Z P p W hd hG hL).mono fun e2 w' ⟨he, hF⟩ => ?_
  rw [e] at he hF
  subst hi
  exact ⟨he, I.next_below hd hb hb.size hF⟩
def z1 : Zn := ⟨3, 80, 5, 9, true, 0⟩
def p1 : Pd := ⟨2, 50, 7⟩
theorem good_z1 : GoodZ [z1] := ⟨List.pairwise_singleton _ _, fun x hx => by
  rw [List.mem_singleton.1 hx]
  decide⟩
theorem good_p1 : GoodP [p1] := ⟨List.pairwise_singleton _ _, fun x hx => by
  rw [List.mem_singleton.1 hx]
  decide⟩
theorem zs_end {Z : List Zn} {w w' : World} {e : Ending} {n : Nat} (hn : Z.length = n) (h : ZsEnd Z w e w') : ∃ q c, e = .returned (.slice q n c) ∧ n ≤ c ∧ w'.ownsRow w.heap.size 61 6 (.slice q n c) n (Z.flatMap zcells) ∧ Rw 6 zcells w' q n Z ∧ Below w.heap.size w w' := by
  subst hn
  obtain ⟨v, rfl, ho, hb⟩ := h
  obtain ⟨q, c, rfl, hc, hr⟩ := rw_own zcells_len ho
  exact ⟨q, c, rfl, hc, ho, hr, hb⟩
theorem ps_end {P : List Pd} {w w' : World} {e : Ending} {n : Nat} (hn : P.length = n) (h : PsEnd P w e w') : ∃ q c, e = .returned (.slice q n c) ∧ n ≤ c ∧ w'.ownsRow w.heap.size 64 3 (.slice q n c) n (P.flatMap pcells) ∧ Rw 3 pcells w' q n P ∧ Below w.heap.size w w' := by
  subst hn
  obtain ⟨v, rfl, ho, hb⟩ := h
  obtain ⟨q, c, rfl, hc, hr⟩ := rw_own pcells_len ho
  exact ⟨q, c, rfl, hc, ho, hr, hb⟩
end Ms
end Go.Proofs.YtkfmkchonlajpaaGreat

namespace Go.Proofs.YtkfmkchonlajpaaGreat
open Go.RowKit

namespace Lo
def az1 : Ms.Zn := ⟨1, 0, 0, 10, false, 0⟩
def az2 : Ms.Zn := ⟨2, 0, 0, 5, true, 0⟩
def ap1 : Ms.Pd := ⟨7, 0, 0⟩
theorem good_az1 : Ms.GoodZ [az1] := Ms.goodZ_add (S := []) Ms.goodZ_nil az1
theorem good_az : Ms.GoodZ [az1, az2] := Ms.goodZ_add (S := [az1]) good_az1 az2
theorem good_ap : Ms.GoodP [ap1] := Ms.goodP_add (S := []) Ms.goodP_nil ap1
abbrev sa : List Sy.Sy := [⟨1, 3, -1⟩]
abbrev sb : List Sy.Sy := [⟨1, 3, 9⟩, ⟨2, 9, -1⟩]
def st1 : Stk := ([⟨1, 7, 8, 90, 0, 0, 0, sa⟩], 1)
def st2 : Stk := ([⟨1, 7, 3, 90, 0, 0, 0, sa⟩, ⟨2, 7, 5, 90, 0, 0, 0, sa⟩], 2)
def st3 : Stk := ([⟨1, 7, 3, 90, 0, 0, 0, sa⟩, ⟨2, 7, 5, 90, 0, 0, 0, sb⟩], 2)
def st4 : Stk := ([⟨1, 7, 3, 90, 0, 0, 0, sa⟩, ⟨2, 7, 3, 90, 0, 0, 0, sb⟩, ⟨3, 7, 2, 90, 0, 0, 0, sb⟩], 3)
def st5 : Stk := ([⟨1, 7, 3, 90, 0, 0, 0, sa⟩, ⟨2, 7, 5, 90, 0, 0, 0, sb⟩], 3)
theorem e1 : recvS [az1, az2] [ap1] ([], 0) 7 1 8 90 3 = ((1, 0), st1) := by decide
theorem e2 : recvS [az1, az2] [ap1] st1 7 1 3 90 3 = ((0, 4), st1) := by decide
theorem e3 : splitS st1 1 5 = ((2, 0), st2) := by decide
theorem e4 : moveS [az1, az2] st2 2 2 9 = (0, st3) := by
  have h1 : at_ 2 st2.1 = some 1 := by decide
  have h2 : Ms.findK Ms.Zn.id 2 [az1, az2] = some az2 := by decide
  have h3 : st2.1[1]? = some ⟨2, 7, 5, 90, 0, 0, 0, sa⟩ := by decide
  have h4 : Sy.May sa 9 ∧ (1 : Int) ≤ 2 := ⟨⟨Sy.right_B.1 (by decide), by decide, fun s hs => by obtain rfl := Option.some.inj (show some (⟨1, 3, -1⟩ : Sy.Sy) = some s from hs); exact .inl ⟨rfl, by decide⟩⟩, by decide⟩
  unfold moveS
  rw [h1, h2]
  simp only [h3]
  rw [if_neg (by decide), if_neg (by decide), if_neg (by decide), if_pos h4]
  decide
theorem e5 : moveS [az1, az2] st3 1 2 9 = (4, st3) := by
  have h1 : at_ 1 st3.1 = some 0 := by decide
  have h2 : Ms.findK Ms.Zn.id 2 [az1, az2] = some az2 := by decide
  have h3 : st3.1[0]? = some ⟨1, 7, 3, 90, 0, 0, 0, sa⟩ := by decide
  unfold moveS
  rw [h1, h2]
  simp only [h3]
  rw [if_neg (by decide), if_neg (by decide), if_pos (by decide)]
theorem e6 : mergeS st3 1 2 = (12, st3) := by decide
theorem e7 : splitS st3 2 2 = ((3, 0), st4) := by decide
theorem e8 : mergeS st4 2 3 = (0, st5) := by decide
theorem e9 : lotS st5 2 = (⟨2, 7, 5, 90, 0, 0, 0, sb⟩, 0) := by decide
set_option maxRecDepth 100000 in
set_option maxHeartbeats 8000000 in
/-- The live question. -/
theorem alive_any {M : Ms.Face} (I : Face M) (w : World) : Calls Tryz.prog 4 #[] w fun e w' => e = .returned (.bool true) ∧ Below w.heap.size w w' := by
  go_enter Tryz.func4, Tryz.ntmps4
  go_wp2_with fail
  refine (M.new _).mono ?_
  rintro e w1 ⟨hm, F0, rfl, hd, hb⟩
  have D := Lib.hid hd
  have B := Lib.hid hb
  clear hd hb
  go_wp2_with fail
  refine (show Calls _ _ #[_, Ms.zval az1] _ _ from Ms.step_Z M B.out D.out Ms.goodZ_nil (by decide) (show Ms.addZ [] az1 = (0, [az1]) by decide) 0 rfl).mono ?_
  rintro e w2 ⟨rfl, F1, hd, hb⟩
  clear D B
  have D := Lib.hid hd
  have B := Lib.hid hb
  clear hd hb
  go_wp2_with fail
  refine (show Calls _ _ #[_, Ms.zval az2] _ _ from Ms.step_Z M B.out D.out good_az1 (by decide) (show Ms.addZ [az1] az2 = (0, [az1, az2]) by decide) 0 rfl).mono ?_
  rintro e w3 ⟨rfl, F2, hd, hb⟩
  clear D B
  have D := Lib.hid hd
  have B := Lib.hid hb
  clear hd hb
  go_wp2_with fail
  refine (show Calls _ _ #[_, Ms.pval ap1] _ _ from Ms.step_P M B.out D.out Ms.goodP_nil (by decide) (show Ms.addP [] ap1 = (0, [ap1]) by decide) 0 rfl).mono ?_
  rintro e w4 ⟨rfl, F3, hd, hb⟩
  clear D B
  have D := Lib.hid hd
  have B := Lib.hid hb
  clear hd hb
  go_wp2_with fail
  refine (I.new _).mono ?_
  rintro e w5 ⟨h, G0, rfl, hd, hb⟩
  have P0 := Lib.hid (pair_new (I := I) D.out B.out B.out.size hd hb good_az good_ap (by decide) (by decide))
  clear hd hb D B
  go_wp2_with fail
  refine (P0.out.recv (by decide) e1 (i64_of (by decide)) (i64_of (by decide)) (i64_of (by decide)) (i64_of (by decide)) (i64_of (by decide)) 1 0 rfl rfl).mono ?_
  rintro e w6 ⟨rfl, G1, hp⟩
  have P1 := Lib.hid hp
  clear hp P0
  go_wp2_with fail
  refine (P1.out.recv (by decide) e2 (i64_of (by decide)) (i64_of (by decide)) (i64_of (by decide)) (i64_of (by decide)) (i64_of (by decide)) 0 4 rfl rfl).mono ?_
  rintro e w7 ⟨rfl, G2, hp⟩
  have P2 := Lib.hid hp
  clear hp P1
  go_wp2_with fail
  refine (P2.out.split (by decide) e3 (i64_of (by decide)) (i64_of (by decide)) 2 0 rfl rfl).mono ?_
  rintro e w8 ⟨rfl, G3, hp⟩
  have P3 := Lib.hid hp
  clear hp P2
  go_wp2_with fail
  refine (P3.out.move (by decide) e4 (i64_of (by decide)) (i64_of (by decide)) (i64_of (by decide)) 0 rfl).mono ?_
  rintro e w9 ⟨rfl, G4, hp⟩
  have P4 := Lib.hid hp
  clear hp P3
  go_wp2_with fail
  refine (P4.out.move (by decide) e5 (i64_of (by decide)) (i64_of (by decide)) (i64_of (by decide)) 4 rfl).mono ?_
  rintro e w10 ⟨rfl, G5, hp⟩
  have P5 := Lib.hid hp
  clear hp P4
  go_wp2_with fail
  refine (P5.out.merge e6 (i64_of (by decide)) (i64_of (by decide)) 12 rfl).mono ?_
  rintro e w11 ⟨rfl, G6, hp⟩
  have P6 := Lib.hid hp
  clear hp P5
  go_wp2_with fail
  refine (P6.out.split (by decide) e7 (i64_of (by decide)) (i64_of (by decide)) 3 0 rfl rfl).mono ?_
  rintro e w12 ⟨rfl, G7, hp⟩
  have P7 := Lib.hid hp
  clear hp P6
  go_wp2_with fail
  refine (P7.out.merge e8 (i64_of (by decide)) (i64_of (by decide)) 0 rfl).mono ?_
  rintro e w13 ⟨rfl, G8, hp⟩
  have P8 := Lib.hid hp
  clear hp P7
  go_wp2_with fail
  refine (P8.out.lot e9 (i64_of (by decide))).mono ?_
  rintro e w14 ⟨⟨x, p, pn, pc⟩, hx, rfl, hs, hk, hb⟩
  subst hx
  unfold lval
  have P9 := Lib.hid (P8.out.keep hb)
  have hn := hs.len
  have ST := Lib.hid hs
  clear hb hk P8 hs
  obtain rfl : pn = 2 := hn.symm
  obtain ⟨b, o, hpb, hc⟩ := ST.out.1.2 (Nat.zero_lt_succ 1)
  obtain rfl : p = some ⟨b, o, none⟩ := hpb
  have hcap : 2 ≤ pc := ST.out.2
  have X0 := Lib.hid (Lies.new w14 50 #[.int .i64 2, .int .i64 7, .int .i64 5, .int .i64 90, .int .i64 0, .int .i64 0, .int .i64 0, .slice (some ⟨b, o, none⟩) 2 pc])
  have B0 := Lib.hid (alloc_below w14 (.cells #[.int .i64 2, .int .i64 7, .int .i64 5, .int .i64 90, .int .i64 0, .int .i64 0, .int .i64 0, .slice (some ⟨b, o, none⟩) 2 pc] 50))
  have PA := Lib.hid (P9.out.keep B0.out)
  have y0 : w14.cell? ⟨b, o, none⟩ = some (.int .i64 1) := hc 0 ⟨1, 3, 9⟩ rfl 0 (by decide)
  have y1 : w14.cell? ⟨b, o + 1, none⟩ = some (.int .i64 3) := hc 0 ⟨1, 3, 9⟩ rfl 1 (by decide)
  have y2 : w14.cell? ⟨b, o + 2, none⟩ = some (.int .i64 9) := hc 0 ⟨1, 3, 9⟩ rfl 2 (by decide)
  have lb := World.block_lt_of_cell? w14 _ y0
  obtain ⟨w15, hw15⟩ : ∃ w15, w14.alloc (.cells #[.int .i64 2, .int .i64 7, .int .i64 5, .int .i64 90, .int .i64 0, .int .i64 0, .int .i64 0, .slice (some ⟨b, o, none⟩) 2 pc] 50) = w15 := ⟨_, rfl⟩
  rw [hw15] at X0 B0 PA
  have z0 : w15.cell? ⟨b, o, none⟩ = some (.int .i64 1) := (B0.out.cell (p := ⟨b, o, none⟩) lb).trans y0
  have z1 : w15.cell? ⟨b, o + 1, none⟩ = some (.int .i64 3) := (B0.out.cell (p := ⟨b, o + 1, none⟩) lb).trans y1
  have z2 : w15.cell? ⟨b, o + 2, none⟩ = some (.int .i64 9) := (B0.out.cell (p := ⟨b, o + 2, none⟩) lb).trans y2
  have x2 : w15.cell? ⟨w14.heap.size, 2, none⟩ = some (.int .i64 5) := X0.out.cell 2
  have x7 : w15.cell? ⟨w14.heap.size, 7, none⟩ = some (.slice (some ⟨b, o, none⟩) 2 pc) := X0.out.cell 7
  clear hc y0 y1 y2 hn ST P9
  have CL := Lib.hid (PA.out.load (zone := 2) (show loadL st5.1 2 = 5 by decide) (i64_of (by decide)))
  go_wp2_with fail
  refine CL.out.mono ?_
  rintro e w16 ⟨rfl, hb⟩
  have PB := Lib.hid (PA.out.keep hb)
  clear hb PA CL x2 x7 z0 z1 z2 X0 B0 hw15
  go_wp2_with fail
  refine PB.out.given.mono ?_
  rintro e w17 ⟨rfl, hb⟩
  have PC := Lib.hid (PB.out.keep hb)
  clear hb PB
  go_wp2_with fail
  refine PC.out.lots.mono ?_
  rintro e w18 hl
  obtain ⟨q, c, L, hL, rfl, _, _, _, _, hb⟩ := lots_end hl
  have BE := Lib.hid (PC.out.keep hb).below
  clear hb hl hL PC
  go_wp2
  go_ret
  exact ⟨rfl, BE.out⟩
end Lo
end Go.Proofs.YtkfmkchonlajpaaGreat

namespace Go.Proofs.YtkfmkchonlajpaaGreat
open Go.RowKit

namespace Ms
/-- What a call leaves that adds. -/
def RAddZ (w : World) (B g : Nat) (vz vp : Value) (P : List Pd) (r : Nat × List Zn) (e : Ending) (w' : World) : Prop :=
  e = .returned (.int .i64 (r.1 : Nat)) ∧ ∃ v', RM w' B g v' vp r.2 P ∧ Turn (fun k => k = g) w w' ∧ (v' = vz ∨ ∀ b, v'.ownBlock = some b → w.heap.size ≤ b)
theorem raddZ_same {w w' : World} {B g n : Nat} {vz vp : Value} {Z : List Zn} {P : List Pd} (h : RM w B g vz vp Z P) (hb : Below w.heap.size w w') : RAddZ w B g vz vp P (n, Z) (.returned (.int .i64 (n : Nat))) w' :=
  ⟨rfl, vz, h.keep hb, Turn.of_below hb, .inl rfl⟩
theorem raddZ_end {w w1 wr : World} {B g f n : Nat} {vz vp v' : Value} {Z : List Zn} {P : List Pd} {out : List Zn} (h : RM w B g vz vp Z P) (hb : Below w.heap.size w w1) (hr : Below w1.heap.size w1 wr) (ho : wr.ownsRow w1.heap.size 61 6 v' f (out.flatMap zcells)) (hf : out.length = f) :
    RAddZ w B g vz vp P (n, out) (.returned (.int .i64 (n : Nat))) (wr.setCell ⟨g, 0, none⟩ v') := by
  subst hf
  have hbr := hb.trans (hr.mono hb.size)
  have h2 := h.keep hbr
  have hlt := h.2.1.lt
  have hT : Turn (fun k => k = g) wr (wr.setCell ⟨g, 0, none⟩ v') := (Turn.refl (fun k => k = g) wr).setCell (p := ⟨g, 0, none⟩) (.inl rfl) _
  have hs := hb.size
  refine ⟨rfl, v', ⟨h.1, by simpa using h2.2.1.set_ 0 v', own_turn (own_floor2 ho (Nat.le_trans h.1 (Nat.le_of_lt (Nat.lt_of_lt_of_le hlt hs)))) hT (fun k hk e => by have := (own_lt ho hk).1; omega), own_turn h2.2.2.2 hT (fun k hk e => own_blk_ne h2.2.2.2 h2.2.1 (by decide) (by rw [hk, e]))⟩, ((Turn.of_below (S := fun k => k = g) hbr).setCell (p := ⟨g, 0, none⟩) (.inl rfl) _), .inr fun b hbb => by have := (own_lt ho hbb).1; omega⟩
set_option maxRecDepth 100000 in
set_option maxHeartbeats 8000000 in
theorem raddZ_yes (B g : Nat) (vz vp : Value) (Z : List Zn) (P : List Pd) (x : Zn) (w : World) (h : RM w B g vz vp Z P) (hr : rightZ x = true) (hL : Z.length ≤ 1000000) :
    Calls Tryz.prog 25 #[.pointer (some ⟨g, 0, none⟩), zval x] w (RAddZ w B g vz vp P (addL Zn.id Z x)) := by
  obtain ⟨i0, hi, hz0, hz1, hz2⟩ := info_parts infoTZ
  have R := Lib.hid (fun W => rrightZ_any x W)
  rw [hr] at R
  have H := Lib.hid h
  have B0 := Lib.hid (alloc_below w (.cells #[.int .i64 x.id, .int .i64 x.worst, .int .i64 x.gap, .int .i64 x.room, .bool x.dock, .int .i64 x.ajar] 61))
  have X0 := Lib.hid (Lies.new w 61 #[.int .i64 x.id, .int .i64 x.worst, .int .i64 x.gap, .int .i64 x.room, .bool x.dock, .int .i64 x.ajar])
  clear hr
  obtain ⟨q0, d0, hv⟩ := own_slice h.2.2.1
  subst hv
  clear h
  obtain ⟨n, hn⟩ : ∃ n, Z.length = n := ⟨_, rfl⟩
  have HN := Lib.hid hn
  have HXC : Hid (zcells x = [.int .i64 x.id, .int .i64 x.worst, .int .i64 x.gap, .int .i64 x.room, .bool x.dock, .int .i64 x.ajar]) := Lib.hid rfl
  have FS := Lib.hid (fun (W : World) (hW : Below w.heap.size w W) => raddZ_same (n := 6) H.out hW)
  have FE := Lib.hid (fun (w1 : World) (h1 : Below w.heap.size w w1) (wr : World) (h2 : Below w1.heap.size w1 wr) (v' : Value) (f : Nat) (out : List Zn) (h3 : wr.ownsRow w1.heap.size 61 6 v' f (out.flatMap zcells)) (h4 : out.length = f) => raddZ_end (n := 0) H.out h1 h2 h3 h4)
  rw [hn] at hL
  have hL' : (n : Int) ≤ 1000000 := by omega
  have FA := Lib.hid (fun (k : Nat) (y : Zn) (hy : Z[k]? = some y) (he : y.id = x.id) (done : Bool) (out : List Zn) (hf : Far (key := Zn.id) x Z k done out) => far_twice hf hy he)
  have FD := Lib.hid (fun (k : Nat) (y : Zn) (out : List Zn) (hf : Far (key := Zn.id) x Z k true out) (hy : Z[k]? = some y) (he : y.id ≠ x.id) => far_done hf hy he)
  have FH := Lib.hid (fun (k : Nat) (y : Zn) (out : List Zn) (hf : Far (key := Zn.id) x Z k false out) (hy : Z[k]? = some y) (he : x.id < y.id) => far_here hf hy he)
  have FN := Lib.hid (fun (k : Nat) (y : Zn) (out : List Zn) (hf : Far (key := Zn.id) x Z k false out) (hy : Z[k]? = some y) (he : y.id ≠ x.id) (h2 : ¬ x.id < y.id) => far_not hf hy he h2)
  have F0 := Lib.hid (far_start (key := Zn.id) x Z)
  have FZ := Lib.hid (fun (done : Bool) (out : List Zn) (hf : Far (key := Zn.id) x Z n done out) => far_end (hn ▸ hf))
  rw [hn] at H
  clear hn
  obtain ⟨ka, kb, kc, kd, ke, kf⟩ := x
  unfold zval
  simp only at R B0 X0 HXC FA FD FH FN ⊢
  go_enter Tryz.func25, Tryz.ntmps25
  go_wp2_with fail
  refine (R.out _).mono ?_
  rintro e w1 ⟨rfl, hb⟩
  have B1 := Lib.hid (B0.out.trans (hb.mono B0.out.size))
  have X1 := Lib.hid (X0.out.below hb X0.out.lt)
  have FG := Lib.hid (fun (W : World) (hW : Below w1.heap.size w1 W) => ((H.out.keep B1.out).keep hW))
  have FX := Lib.hid (fun (W : World) (hW : Below w1.heap.size w1 W) => X1.out.below hW X1.out.lt)
  clear hb B0 X0 R H
  go_wp2_with fail
  go_loopw [6, 7, 8] (fun v dn i wr => ∃ (k f : Nat) (done : Bool) (out : List Zn), k ≤ n ∧ f ≤ k + 1 ∧ i = .int .i64 k ∧ dn = .bool done ∧ (∃ q d, v = .slice q f d) ∧ Hid (out.length = f) ∧ Hid (Far (key := Zn.id) ⟨ka, kb, kc, kd, ke, kf⟩ Z k done out) ∧ Hid (wr.ownsRow w1.heap.size 61 6 v f (out.flatMap zcells)) ∧ Hid (Below w1.heap.size w1 wr)) (fun _ _ i _ => n - (RowKit.intOf i).toNat)
  case atStart => exact ⟨0, 0, false, [], Nat.zero_le _, Nat.zero_le _, rfl, rfl, ⟨none, 0, rfl⟩, Lib.hid rfl, F0, Lib.hid (World.ownsRow_nil _ _ _ _), Lib.hid (Below.refl _ _)⟩
  case round =>
    obtain ⟨k, f, done, out, hk, hf, rfl, rfl, ⟨q, d, rfl⟩, HF, FR, RO, BR⟩ := hrel
    have GR := FG.out wr BR.out
    have XR := FX.out wr BR.out
    have m0 : wr.cell? ⟨g, 0, none⟩ = some (.slice q0 n d0) := GR.2.1.cell 0
    have x0 : wr.cell? ⟨w.heap.size, 0, none⟩ = some (.int .i64 ka) := XR.cell 0
    have x1 : wr.cell? ⟨w.heap.size, 1, none⟩ = some (.int .i64 kb) := XR.cell 1
    have x2 : wr.cell? ⟨w.heap.size, 2, none⟩ = some (.int .i64 kc) := XR.cell 2
    have x3 : wr.cell? ⟨w.heap.size, 3, none⟩ = some (.int .i64 kd) := XR.cell 3
    have x4 : wr.cell? ⟨w.heap.size, 4, none⟩ = some (.bool ke) := XR.cell 4
    have x5 : wr.cell? ⟨w.heap.size, 5, none⟩ = some (.int .i64 kf) := XR.cell 5
    by_cases hlt : k < n
    · have hk3 : (k : Int) < (n : Int) := by omega
      obtain ⟨y, hy⟩ : ∃ y, Z[k]? = some y := ⟨_, List.getElem?_eq_getElem (by rw [HN.out]; exact hlt)⟩
      obtain ⟨blk, cc, e, hb1, hb2, hncc⟩ := own_some GR.2.2.1 (by rw [HN.out]; omega)
      rw [HN.out] at e
      have FE1 := Lib.hid (fun (W : World) (hW : Below w1.heap.size w1 W) i (hi : i < 6) => by
        have o2 := (FG.out W hW).2.2.1
        rw [e, HN.out] at o2
        exact row_cell zcells_len o2 HN.out hy hi)
      cases e
      have HY := Lib.hid hy
      have HYC : Hid (zcells y = [.int .i64 y.id, .int .i64 y.worst, .int .i64 y.gap, .int .i64 y.room, .bool y.dock, .int .i64 y.ajar]) := Lib.hid rfl
      clear hy hb1 hb2 GR XR
      have FA := Lib.hid (fun he => FA.out k y HY.out he done out FR.out)
      have hF0 := HF.out
      obtain ⟨ka2, kb2, kc2, kd2, ke2, kf2⟩ := y
      simp only at HYC FA
      have e0 : wr.cell? ⟨blk, k * 6, none⟩ = some (.int .i64 ka2) := FE1.out wr BR.out 0 (by decide)
      have e1 : wr.cell? ⟨blk, k * 6 + 1, none⟩ = some (.int .i64 kb2) := FE1.out wr BR.out 1 (by decide)
      have e2 : wr.cell? ⟨blk, k * 6 + 2, none⟩ = some (.int .i64 kc2) := FE1.out wr BR.out 2 (by decide)
      have e3 : wr.cell? ⟨blk, k * 6 + 3, none⟩ = some (.int .i64 kd2) := FE1.out wr BR.out 3 (by decide)
      have e4 : wr.cell? ⟨blk, k * 6 + 4, none⟩ = some (.bool ke2) := FE1.out wr BR.out 4 (by decide)
      have e5 : wr.cell? ⟨blk, k * 6 + 5, none⟩ = some (.int .i64 kf2) := FE1.out wr BR.out 5 (by decide)
      clear hF0
      by_cases ha : ka2 = ka
      · subst ha
        have HE := Lib.hid (FA.out rfl)
        go_wp2_with fail
        go_quiet (fail)
        go_wp2
        go_ret
        rw [HE.out]
        have := FS.out (wr.drewN nq) (B1.out.trans ((below_drewN BR.out nq).mono B1.out.size))
        exact ⟨rfl, this.2⟩
      · have ha2 : (ka2 == ka) = false := by simp [ha]
        have HA := Lib.hid ha
        clear ha FA
        go_wp2_with fail
        go_quiet (fail)
        have B3 := Lib.hid (below_drewN BR.out nq)
        have O3 := Lib.hid (own_turn RO.out (turn_drewN wr (fun _ => False) nq) (fun _ _ hf => hf))
        obtain ⟨w3, hw3⟩ : ∃ w3, wr.drewN nq = w3 := ⟨_, rfl⟩
        rw [hw3] at B3 O3 ⊢
        clear hw3 m0 x0 x1 x2 x3 x4 x5 e0 e1 e2 e3 e4 e5 ha2
        have m0 : w3.cell? ⟨g, 0, none⟩ = some (.slice (some ⟨blk, 0, none⟩) n d0) := (FG.out w3 B3.out).2.1.cell 0
        have x0 : w3.cell? ⟨w.heap.size, 0, none⟩ = some (.int .i64 ka) := (FX.out w3 B3.out).cell 0
        have x1 : w3.cell? ⟨w.heap.size, 1, none⟩ = some (.int .i64 kb) := (FX.out w3 B3.out).cell 1
        have x2 : w3.cell? ⟨w.heap.size, 2, none⟩ = some (.int .i64 kc) := (FX.out w3 B3.out).cell 2
        have x3 : w3.cell? ⟨w.heap.size, 3, none⟩ = some (.int .i64 kd) := (FX.out w3 B3.out).cell 3
        have x4 : w3.cell? ⟨w.heap.size, 4, none⟩ = some (.bool ke) := (FX.out w3 B3.out).cell 4
        have x5 : w3.cell? ⟨w.heap.size, 5, none⟩ = some (.int .i64 kf) := (FX.out w3 B3.out).cell 5
        have e0 : w3.cell? ⟨blk, k * 6, none⟩ = some (.int .i64 ka2) := FE1.out w3 B3.out 0 (by decide)
        have e1 : w3.cell? ⟨blk, k * 6 + 1, none⟩ = some (.int .i64 kb2) := FE1.out w3 B3.out 1 (by decide)
        have e2 : w3.cell? ⟨blk, k * 6 + 2, none⟩ = some (.int .i64 kc2) := FE1.out w3 B3.out 2 (by decide)
        have e3 : w3.cell? ⟨blk, k * 6 + 3, none⟩ = some (.int .i64 kd2) := FE1.out w3 B3.out 3 (by decide)
        have e4 : w3.cell? ⟨blk, k * 6 + 4, none⟩ = some (.bool ke2) := FE1.out w3 B3.out 4 (by decide)
        have e5 : w3.cell? ⟨blk, k * 6 + 5, none⟩ = some (.int .i64 kf2) := FE1.out w3 B3.out 5 (by decide)
        cases done with
        | true =>
          have FF := Lib.hid (FD.out k _ out FR.out HY.out HA.out)
          go_wp2_with fail
          go_quiet (fail)
          have B4 := Lib.hid (below_drewN B3.out nq)
          have O4 := Lib.hid (own_turn O3.out (turn_drewN w3 (fun _ => False) nq) (fun _ _ hf => hf))
          obtain ⟨w4, hw4⟩ : ∃ w4, w3.drewN nq = w4 := ⟨_, rfl⟩
          rw [hw4] at B4 O4 ⊢
          clear hw4 m0 x0 x1 x2 x3 x4 x5 e0 e1 e2 e3 e4 e5 B3 O3 RO BR
          have m0 : w4.cell? ⟨g, 0, none⟩ = some (.slice (some ⟨blk, 0, none⟩) n d0) := (FG.out w4 B4.out).2.1.cell 0
          have e0 : w4.cell? ⟨blk, k * 6, none⟩ = some (.int .i64 ka2) := FE1.out w4 B4.out 0 (by decide)
          have e1 : w4.cell? ⟨blk, k * 6 + 1, none⟩ = some (.int .i64 kb2) := FE1.out w4 B4.out 1 (by decide)
          have e2 : w4.cell? ⟨blk, k * 6 + 2, none⟩ = some (.int .i64 kc2) := FE1.out w4 B4.out 2 (by decide)
          have e3 : w4.cell? ⟨blk, k * 6 + 3, none⟩ = some (.int .i64 kd2) := FE1.out w4 B4.out 3 (by decide)
          have e4 : w4.cell? ⟨blk, k * 6 + 4, none⟩ = some (.bool ke2) := FE1.out w4 B4.out 4 (by decide)
          have e5 : w4.cell? ⟨blk, k * 6 + 5, none⟩ = some (.int .i64 kf2) := FE1.out w4 B4.out 5 (by decide)
          have hs4 := B4.out.size
          go_wp2_with (at_builtin; refine wpList_append_own _ rfl _ _ 22 rfl w1.heap.size 61 i0 _ 6 48 Tryz.underlying22 hi hz0 hz1 hz2 rfl (by decide) _ _ _ rfl (O4.out.alloc _) ⟨w4.heap.size, 0, none⟩ 1 1 [.int .i64 ka2, .int .i64 kb2, .int .i64 kc2, .int .i64 kd2, .bool ke2, .int .i64 kf2] rfl rfl (World.news_of_block (cs := #[.int .i64 ka2, .int .i64 kb2, .int .i64 kc2, .int .i64 kd2, .bool ke2, .int .i64 kf2]) (t := 61) (fr := (0, 0)) (heap_alloc_new w4 _)) (by simp [Value.oneCell']) (by unfold maxLen; omega) (by omega) (by simp; omega) ?_; intro v5 w5 hown5 hg5 _; have B5 := Lib.hid ((B4.out.alloc hs4 (.cells #[.int .i64 ka2, .int .i64 kb2, .int .i64 kc2, .int .i64 kd2, .bool ke2, .int .i64 kf2] 61)).grown hg5 (Nat.le_trans hs4 (size_alloc _ _)) (fun i hi => (own_lt O4.out hi).1)); have hs5 := B5.out.size)
          obtain ⟨q5, d5, rfl⟩ := own_slice hown5
          have O5 := Lib.hid hown5
          clear hown5 hg5
          go_wp2
          go_roundw
          case rel => exact ⟨k + 1, f + 1, true, out ++ [⟨ka2, kb2, kc2, kd2, ke2, kf2⟩], by omega, by omega, by go_num, rfl, ⟨_, _, rfl⟩, Lib.hid (by have := HF.out; simp [this]), FF, Lib.hid (by
            rw [← flat_snoc, HYC.out]
            exact O5.out), B5⟩
          case measure => simp [RowKit.intOf]; omega
        | false =>
          by_cases hg : ka < ka2
          · have hF1 := far_len0 FR.out
            rw [HF.out] at hF1
            have FF := Lib.hid (FH.out k _ out FR.out HY.out hg)
            go_wp2_with fail
            go_quiet (fail)
            have B4 := Lib.hid (below_drewN B3.out nq)
            have O4 := Lib.hid (own_turn O3.out (turn_drewN w3 (fun _ => False) nq) (fun _ _ hf => hf))
            obtain ⟨w4, hw4⟩ : ∃ w4, w3.drewN nq = w4 := ⟨_, rfl⟩
            rw [hw4] at B4 O4 ⊢
            clear hw4 m0 x0 x1 x2 x3 x4 x5 e0 e1 e2 e3 e4 e5 B3 O3 RO BR hg
            have x0 : w4.cell? ⟨w.heap.size, 0, none⟩ = some (.int .i64 ka) := (FX.out w4 B4.out).cell 0
            have x1 : w4.cell? ⟨w.heap.size, 1, none⟩ = some (.int .i64 kb) := (FX.out w4 B4.out).cell 1
            have x2 : w4.cell? ⟨w.heap.size, 2, none⟩ = some (.int .i64 kc) := (FX.out w4 B4.out).cell 2
            have x3 : w4.cell? ⟨w.heap.size, 3, none⟩ = some (.int .i64 kd) := (FX.out w4 B4.out).cell 3
            have x4 : w4.cell? ⟨w.heap.size, 4, none⟩ = some (.bool ke) := (FX.out w4 B4.out).cell 4
            have x5 : w4.cell? ⟨w.heap.size, 5, none⟩ = some (.int .i64 kf) := (FX.out w4 B4.out).cell 5
            have hs4 := B4.out.size
            go_wp2_with (first | (at_builtin; refine wpList_append_own _ rfl _ _ 22 rfl w1.heap.size 61 i0 _ 6 48 Tryz.underlying22 hi hz0 hz1 hz2 rfl (by decide) _ _ _ rfl (O4.out.alloc _) ⟨w4.heap.size, 0, none⟩ 1 1 [.int .i64 ka, .int .i64 kb, .int .i64 kc, .int .i64 kd, .bool ke, .int .i64 kf] rfl rfl (World.news_of_block (cs := #[.int .i64 ka, .int .i64 kb, .int .i64 kc, .int .i64 kd, .bool ke, .int .i64 kf]) (t := 61) (fr := (0, 0)) (heap_alloc_new w4 _)) (by simp [Value.oneCell']) (by unfold maxLen; omega) (by omega) (by simp; omega) ?_; intro v5 w5 hown5 hg5 _; have B5 := Lib.hid ((B4.out.alloc hs4 (.cells #[.int .i64 ka, .int .i64 kb, .int .i64 kc, .int .i64 kd, .bool ke, .int .i64 kf] 61)).grown hg5 (Nat.le_trans hs4 (size_alloc _ _)) (fun i hi => (own_lt O4.out hi).1)); have hs5 := B5.out.size; have m5 : w5.cell? ⟨g, 0, none⟩ = some (.slice (some ⟨blk, 0, none⟩) n d0) := (FG.out w5 B5.out).2.1.cell 0; have y0 : w5.cell? ⟨blk, k * 6, none⟩ = some (.int .i64 ka2) := FE1.out w5 B5.out 0 (by decide); have y1 : w5.cell? ⟨blk, k * 6 + 1, none⟩ = some (.int .i64 kb2) := FE1.out w5 B5.out 1 (by decide); have y2 : w5.cell? ⟨blk, k * 6 + 2, none⟩ = some (.int .i64 kc2) := FE1.out w5 B5.out 2 (by decide); have y3 : w5.cell? ⟨blk, k * 6 + 3, none⟩ = some (.int .i64 kd2) := FE1.out w5 B5.out 3 (by decide); have y4 : w5.cell? ⟨blk, k * 6 + 4, none⟩ = some (.bool ke2) := FE1.out w5 B5.out 4 (by decide); have y5 : w5.cell? ⟨blk, k * 6 + 5, none⟩ = some (.int .i64 kf2) := FE1.out w5 B5.out 5 (by decide)) | (at_builtin; refine wpList_append_own _ rfl _ _ 22 rfl w1.heap.size 61 i0 _ 6 48 Tryz.underlying22 hi hz0 hz1 hz2 rfl (by decide) _ _ _ rfl (hown5.alloc _) ⟨w5.heap.size, 0, none⟩ 1 1 [.int .i64 ka2, .int .i64 kb2, .int .i64 kc2, .int .i64 kd2, .bool ke2, .int .i64 kf2] rfl rfl (World.news_of_block (cs := #[.int .i64 ka2, .int .i64 kb2, .int .i64 kc2, .int .i64 kd2, .bool ke2, .int .i64 kf2]) (t := 61) (fr := (0, 0)) (heap_alloc_new w5 _)) (by simp [Value.oneCell']) (by unfold maxLen; omega) (by omega) (by simp; omega) ?_; intro v6 w6 hown6 hg6 _; have B6 := Lib.hid ((B5.out.alloc hs5 (.cells #[.int .i64 ka2, .int .i64 kb2, .int .i64 kc2, .int .i64 kd2, .bool ke2, .int .i64 kf2] 61)).grown hg6 (Nat.le_trans hs5 (size_alloc _ _)) (fun i hi => (own_lt hown5 hi).1)); have hs6 := B6.out.size))
            obtain ⟨q6, d6, rfl⟩ := own_slice hown6
            have O6 := Lib.hid hown6
            clear hown5 hg5 hown6 hg6
            go_wp2
            go_roundw
            case rel => exact ⟨k + 1, f + 2, true, out ++ [⟨ka, kb, kc, kd, ke, kf⟩] ++ [⟨ka2, kb2, kc2, kd2, ke2, kf2⟩], by omega, by omega, by go_num, rfl, ⟨_, _, rfl⟩, Lib.hid (by have := HF.out; simp [this]), FF, Lib.hid (by
              rw [← flat_snoc, ← flat_snoc, HYC.out, HXC.out]
              exact O6.out), B6⟩
            case measure => simp [RowKit.intOf]; omega
          · have FF := Lib.hid (FN.out k _ out FR.out HY.out HA.out (by simpa using hg))
            have hg2 : decide (ka < ka2) = false := by simpa using hg
            clear hg
            go_wp2_with fail
            go_quiet (fail)
            have B4 := Lib.hid (below_drewN B3.out nq)
            have O4 := Lib.hid (own_turn O3.out (turn_drewN w3 (fun _ => False) nq) (fun _ _ hf => hf))
            obtain ⟨w4, hw4⟩ : ∃ w4, w3.drewN nq = w4 := ⟨_, rfl⟩
            rw [hw4] at B4 O4 ⊢
            clear hw4 m0 x0 x1 x2 x3 x4 x5 e0 e1 e2 e3 e4 e5 B3 O3 RO BR hg2
            have m0 : w4.cell? ⟨g, 0, none⟩ = some (.slice (some ⟨blk, 0, none⟩) n d0) := (FG.out w4 B4.out).2.1.cell 0
            have e0 : w4.cell? ⟨blk, k * 6, none⟩ = some (.int .i64 ka2) := FE1.out w4 B4.out 0 (by decide)
            have e1 : w4.cell? ⟨blk, k * 6 + 1, none⟩ = some (.int .i64 kb2) := FE1.out w4 B4.out 1 (by decide)
            have e2 : w4.cell? ⟨blk, k * 6 + 2, none⟩ = some (.int .i64 kc2) := FE1.out w4 B4.out 2 (by decide)
            have e3 : w4.cell? ⟨blk, k * 6 + 3, none⟩ = some (.int .i64 kd2) := FE1.out w4 B4.out 3 (by decide)
            have e4 : w4.cell? ⟨blk, k * 6 + 4, none⟩ = some (.bool ke2) := FE1.out w4 B4.out 4 (by decide)
            have e5 : w4.cell? ⟨blk, k * 6 + 5, none⟩ = some (.int .i64 kf2) := FE1.out w4 B4.out 5 (by decide)
            have hs4 := B4.out.size
            go_wp2_with (at_builtin; refine wpList_append_own _ rfl _ _ 22 rfl w1.heap.size 61 i0 _ 6 48 Tryz.underlying22 hi hz0 hz1 hz2 rfl (by decide) _ _ _ rfl (O4.out.alloc _) ⟨w4.heap.size, 0, none⟩ 1 1 [.int .i64 ka2, .int .i64 kb2, .int .i64 kc2, .int .i64 kd2, .bool ke2, .int .i64 kf2] rfl rfl (World.news_of_block (cs := #[.int .i64 ka2, .int .i64 kb2, .int .i64 kc2, .int .i64 kd2, .bool ke2, .int .i64 kf2]) (t := 61) (fr := (0, 0)) (heap_alloc_new w4 _)) (by simp [Value.oneCell']) (by unfold maxLen; omega) (by omega) (by simp; omega) ?_; intro v5 w5 hown5 hg5 _; have B5 := Lib.hid ((B4.out.alloc hs4 (.cells #[.int .i64 ka2, .int .i64 kb2, .int .i64 kc2, .int .i64 kd2, .bool ke2, .int .i64 kf2] 61)).grown hg5 (Nat.le_trans hs4 (size_alloc _ _)) (fun i hi => (own_lt O4.out hi).1)); have hs5 := B5.out.size)
            obtain ⟨q5, d5, rfl⟩ := own_slice hown5
            have O5 := Lib.hid hown5
            clear hown5 hg5
            go_wp2
            go_roundw
            case rel => exact ⟨k + 1, f + 1, false, out ++ [⟨ka2, kb2, kc2, kd2, ke2, kf2⟩], by omega, by omega, by go_num, rfl, ⟨_, _, rfl⟩, Lib.hid (by have := HF.out; simp [this]), FF, Lib.hid (by
              rw [← flat_snoc, HYC.out]
              exact O5.out), B5⟩
            case measure => simp [RowKit.intOf]; omega
    · obtain rfl : k = n := by omega
      have HE := Lib.hid (FZ.out done out FR.out)
      have mf : wr.frozen? ⟨g, 0, none⟩ = false := GR.2.1.frozen 0
      clear GR XR
      have hs := BR.out.size
      cases done with
      | true =>
        go_wp2
        go_ret
        rw [HE.out]
        exact FE.out w1 B1.out wr BR.out _ f out RO.out HF.out
      | false =>
        go_wp2_with (at_builtin; refine wpList_append_own _ rfl _ _ 22 rfl w1.heap.size 61 i0 _ 6 48 Tryz.underlying22 hi hz0 hz1 hz2 rfl (by decide) _ _ _ rfl (RO.out.alloc _) ⟨wr.heap.size, 0, none⟩ 1 1 [.int .i64 ka, .int .i64 kb, .int .i64 kc, .int .i64 kd, .bool ke, .int .i64 kf] rfl rfl (World.news_of_block (cs := #[.int .i64 ka, .int .i64 kb, .int .i64 kc, .int .i64 kd, .bool ke, .int .i64 kf]) (t := 61) (fr := (0, 0)) (heap_alloc_new wr _)) (by simp [Value.oneCell']) (by unfold maxLen; omega) (by omega) (by simp; omega) ?_; intro v5 w5 hown5 hg5 _; have B5 := Lib.hid ((BR.out.alloc hs (.cells #[.int .i64 ka, .int .i64 kb, .int .i64 kc, .int .i64 kd, .bool ke, .int .i64 kf] 61)).grown hg5 (Nat.le_trans hs (size_alloc _ _)) (fun i hi => (own_lt RO.out hi).1)); have hs5 := B5.out.size; have GF5 := (FG.out w5 B5.out).2.1.frozen 0; have GC5 := (FG.out w5 B5.out).2.1.cell 0; obtain ⟨q5, d5, rfl⟩ := own_slice hown5)
        have O5 := Lib.hid hown5
        clear hown5 hg5
        go_wp2
        go_ret
        rw [HE.out]
        exact FE.out w1 B1.out w5 B5.out _ (f + 1) (out ++ [⟨ka, kb, kc, kd, ke, kf⟩]) (by rw [← flat_snoc, HXC.out]; exact O5.out) (by have := HF.out; simp [this])
end Ms
end Go.Proofs.YtkfmkchonlajpaaGreat

namespace Go.Proofs.YtkfmkchonlajpaaGreat
open Go.RowKit

namespace Ms
/-- What a call leaves that adds. -/
def RAddP (w : World) (B g : Nat) (vz vp : Value) (Z : List Zn) (r : Nat × List Pd) (e : Ending) (w' : World) : Prop :=
  e = .returned (.int .i64 (r.1 : Nat)) ∧ ∃ v', RM w' B g vz v' Z r.2 ∧ Turn (fun k => k = g) w w' ∧ (v' = vp ∨ ∀ b, v'.ownBlock = some b → w.heap.size ≤ b)
theorem raddP_same {w w' : World} {B g n : Nat} {vz vp : Value} {Z : List Zn} {P : List Pd} (h : RM w B g vz vp Z P) (hb : Below w.heap.size w w') : RAddP w B g vz vp Z (n, P) (.returned (.int .i64 (n : Nat))) w' :=
  ⟨rfl, vp, h.keep hb, Turn.of_below hb, .inl rfl⟩
theorem raddP_end {w w1 wr : World} {B g f n : Nat} {vz vp v' : Value} {Z : List Zn} {P : List Pd} {out : List Pd} (h : RM w B g vz vp Z P) (hb : Below w.heap.size w w1) (hr : Below w1.heap.size w1 wr) (ho : wr.ownsRow w1.heap.size 64 3 v' f (out.flatMap pcells)) (hf : out.length = f) :
    RAddP w B g vz vp Z (n, out) (.returned (.int .i64 (n : Nat))) (wr.setCell ⟨g, 1, none⟩ v') := by
  subst hf
  have hbr := hb.trans (hr.mono hb.size)
  have h2 := h.keep hbr
  have hlt := h.2.1.lt
  have hT : Turn (fun k => k = g) wr (wr.setCell ⟨g, 1, none⟩ v') := (Turn.refl (fun k => k = g) wr).setCell (p := ⟨g, 1, none⟩) (.inl rfl) _
  have hs := hb.size
  refine ⟨rfl, v', ⟨h.1, by simpa using h2.2.1.set_ 1 v', own_turn h2.2.2.1 hT (fun k hk e => own_blk_ne h2.2.2.1 h2.2.1 (by decide) (by rw [hk, e])), own_turn (own_floor2 ho (Nat.le_trans h.1 (Nat.le_of_lt (Nat.lt_of_lt_of_le hlt hs)))) hT (fun k hk e => by have := (own_lt ho hk).1; omega)⟩, ((Turn.of_below (S := fun k => k = g) hbr).setCell (p := ⟨g, 1, none⟩) (.inl rfl) _), .inr fun b hbb => by have := (own_lt ho hbb).1; omega⟩
set_option maxRecDepth 100000 in
set_option maxHeartbeats 8000000 in
theorem raddP_yes (B g : Nat) (vz vp : Value) (Z : List Zn) (P : List Pd) (x : Pd) (w : World) (h : RM w B g vz vp Z P) (hr : rightP x = true) (hL : P.length ≤ 1000000) :
    Calls Tryz.prog 26 #[.pointer (some ⟨g, 0, none⟩), pval x] w (RAddP w B g vz vp Z (addL Pd.id P x)) := by
  obtain ⟨i0, hi, hz0, hz1, hz2⟩ := info_parts infoTP
  have R := Lib.hid (fun W => rrightP_any x W)
  rw [hr] at R
  have H := Lib.hid h
  have B0 := Lib.hid (alloc_below w (.cells #[.int .i64 x.id, .int .i64 x.limit, .int .i64 x.budget] 64))
  have X0 := Lib.hid (Lies.new w 64 #[.int .i64 x.id, .int .i64 x.limit, .int .i64 x.budget])
  clear hr
  obtain ⟨q0, d0, hv⟩ := own_slice h.2.2.2
  subst hv
  clear h
  obtain ⟨n, hn⟩ : ∃ n, P.length = n := ⟨_, rfl⟩
  have HN := Lib.hid hn
  have HXC : Hid (pcells x = [.int .i64 x.id, .int .i64 x.limit, .int .i64 x.budget]) := Lib.hid rfl
  have FS := Lib.hid (fun (W : World) (hW : Below w.heap.size w W) => raddP_same (n := 6) H.out hW)
  have FE := Lib.hid (fun (w1 : World) (h1 : Below w.heap.size w w1) (wr : World) (h2 : Below w1.heap.size w1 wr) (v' : Value) (f : Nat) (out : List Pd) (h3 : wr.ownsRow w1.heap.size 64 3 v' f (out.flatMap pcells)) (h4 : out.length = f) => raddP_end (n := 0) H.out h1 h2 h3 h4)
  rw [hn] at hL
  have hL' : (n : Int) ≤ 1000000 := by omega
  have FA := Lib.hid (fun (k : Nat) (y : Pd) (hy : P[k]? = some y) (he : y.id = x.id) (done : Bool) (out : List Pd) (hf : Far (key := Pd.id) x P k done out) => far_twice hf hy he)
  have FD := Lib.hid (fun (k : Nat) (y : Pd) (out : List Pd) (hf : Far (key := Pd.id) x P k true out) (hy : P[k]? = some y) (he : y.id ≠ x.id) => far_done hf hy he)
  have FH := Lib.hid (fun (k : Nat) (y : Pd) (out : List Pd) (hf : Far (key := Pd.id) x P k false out) (hy : P[k]? = some y) (he : x.id < y.id) => far_here hf hy he)
  have FN := Lib.hid (fun (k : Nat) (y : Pd) (out : List Pd) (hf : Far (key := Pd.id) x P k false out) (hy : P[k]? = some y) (he : y.id ≠ x.id) (h2 : ¬ x.id < y.id) => far_not hf hy he h2)
  have F0 := Lib.hid (far_start (key := Pd.id) x P)
  have FZ := Lib.hid (fun (done : Bool) (out : List Pd) (hf : Far (key := Pd.id) x P n done out) => far_end (hn ▸ hf))
  rw [hn] at H
  clear hn
  obtain ⟨ka, kb, kc⟩ := x
  unfold pval
  simp only at R B0 X0 HXC FA FD FH FN ⊢
  go_enter Tryz.func26, Tryz.ntmps26
  go_wp2_with fail
  refine (R.out _).mono ?_
  rintro e w1 ⟨rfl, hb⟩
  have B1 := Lib.hid (B0.out.trans (hb.mono B0.out.size))
  have X1 := Lib.hid (X0.out.below hb X0.out.lt)
  have FG := Lib.hid (fun (W : World) (hW : Below w1.heap.size w1 W) => ((H.out.keep B1.out).keep hW))
  have FX := Lib.hid (fun (W : World) (hW : Below w1.heap.size w1 W) => X1.out.below hW X1.out.lt)
  clear hb B0 X0 R H
  go_wp2_with fail
  go_loopw [6, 7, 8] (fun v dn i wr => ∃ (k f : Nat) (done : Bool) (out : List Pd), k ≤ n ∧ f ≤ k + 1 ∧ i = .int .i64 k ∧ dn = .bool done ∧ (∃ q d, v = .slice q f d) ∧ Hid (out.length = f) ∧ Hid (Far (key := Pd.id) ⟨ka, kb, kc⟩ P k done out) ∧ Hid (wr.ownsRow w1.heap.size 64 3 v f (out.flatMap pcells)) ∧ Hid (Below w1.heap.size w1 wr)) (fun _ _ i _ => n - (RowKit.intOf i).toNat)
  case atStart => exact ⟨0, 0, false, [], Nat.zero_le _, Nat.zero_le _, rfl, rfl, ⟨none, 0, rfl⟩, Lib.hid rfl, F0, Lib.hid (World.ownsRow_nil _ _ _ _), Lib.hid (Below.refl _ _)⟩
  case round =>
    obtain ⟨k, f, done, out, hk, hf, rfl, rfl, ⟨q, d, rfl⟩, HF, FR, RO, BR⟩ := hrel
    have GR := FG.out wr BR.out
    have XR := FX.out wr BR.out
    have m0 : wr.cell? ⟨g, 1, none⟩ = some (.slice q0 n d0) := GR.2.1.cell 1
    have x0 : wr.cell? ⟨w.heap.size, 0, none⟩ = some (.int .i64 ka) := XR.cell 0
    have x1 : wr.cell? ⟨w.heap.size, 1, none⟩ = some (.int .i64 kb) := XR.cell 1
    have x2 : wr.cell? ⟨w.heap.size, 2, none⟩ = some (.int .i64 kc) := XR.cell 2
    by_cases hlt : k < n
    · have hk3 : (k : Int) < (n : Int) := by omega
      obtain ⟨y, hy⟩ : ∃ y, P[k]? = some y := ⟨_, List.getElem?_eq_getElem (by rw [HN.out]; exact hlt)⟩
      obtain ⟨blk, cc, e, hb1, hb2, hncc⟩ := own_some GR.2.2.2 (by rw [HN.out]; omega)
      rw [HN.out] at e
      have FE1 := Lib.hid (fun (W : World) (hW : Below w1.heap.size w1 W) i (hi : i < 3) => by
        have o2 := (FG.out W hW).2.2.2
        rw [e, HN.out] at o2
        exact row_cell pcells_len o2 HN.out hy hi)
      cases e
      have HY := Lib.hid hy
      have HYC : Hid (pcells y = [.int .i64 y.id, .int .i64 y.limit, .int .i64 y.budget]) := Lib.hid rfl
      clear hy hb1 hb2 GR XR
      have FA := Lib.hid (fun he => FA.out k y HY.out he done out FR.out)
      have hF0 := HF.out
      obtain ⟨ka2, kb2, kc2⟩ := y
      simp only at HYC FA
      have e0 : wr.cell? ⟨blk, k * 3, none⟩ = some (.int .i64 ka2) := FE1.out wr BR.out 0 (by decide)
      have e1 : wr.cell? ⟨blk, k * 3 + 1, none⟩ = some (.int .i64 kb2) := FE1.out wr BR.out 1 (by decide)
      have e2 : wr.cell? ⟨blk, k * 3 + 2, none⟩ = some (.int .i64 kc2) := FE1.out wr BR.out 2 (by decide)
      clear hF0
      by_cases ha : ka2 = ka
      · subst ha
        have HE := Lib.hid (FA.out rfl)
        go_wp2_with fail
        go_quiet (fail)
        go_wp2
        go_ret
        rw [HE.out]
        have := FS.out (wr.drewN nq) (B1.out.trans ((below_drewN BR.out nq).mono B1.out.size))
        exact ⟨rfl, this.2⟩
      · have ha2 : (ka2 == ka) = false := by simp [ha]
        have HA := Lib.hid ha
        clear ha FA
        go_wp2_with fail
        go_quiet (fail)
        have B3 := Lib.hid (below_drewN BR.out nq)
        have O3 := Lib.hid (own_turn RO.out (turn_drewN wr (fun _ => False) nq) (fun _ _ hf => hf))
        obtain ⟨w3, hw3⟩ : ∃ w3, wr.drewN nq = w3 := ⟨_, rfl⟩
        rw [hw3] at B3 O3 ⊢
        clear hw3 m0 x0 x1 x2 e0 e1 e2 ha2
        have m0 : w3.cell? ⟨g, 1, none⟩ = some (.slice (some ⟨blk, 0, none⟩) n d0) := (FG.out w3 B3.out).2.1.cell 1
        have x0 : w3.cell? ⟨w.heap.size, 0, none⟩ = some (.int .i64 ka) := (FX.out w3 B3.out).cell 0
        have x1 : w3.cell? ⟨w.heap.size, 1, none⟩ = some (.int .i64 kb) := (FX.out w3 B3.out).cell 1
        have x2 : w3.cell? ⟨w.heap.size, 2, none⟩ = some (.int .i64 kc) := (FX.out w3 B3.out).cell 2
        have e0 : w3.cell? ⟨blk, k * 3, none⟩ = some (.int .i64 ka2) := FE1.out w3 B3.out 0 (by decide)
        have e1 : w3.cell? ⟨blk, k * 3 + 1, none⟩ = some (.int .i64 kb2) := FE1.out w3 B3.out 1 (by decide)
        have e2 : w3.cell? ⟨blk, k * 3 + 2, none⟩ = some (.int .i64 kc2) := FE1.out w3 B3.out 2 (by decide)
        cases done with
        | true =>
          have FF := Lib.hid (FD.out k _ out FR.out HY.out HA.out)
          go_wp2_with fail
          go_quiet (fail)
          have B4 := Lib.hid (below_drewN B3.out nq)
          have O4 := Lib.hid (own_turn O3.out (turn_drewN w3 (fun _ => False) nq) (fun _ _ hf => hf))
          obtain ⟨w4, hw4⟩ : ∃ w4, w3.drewN nq = w4 := ⟨_, rfl⟩
          rw [hw4] at B4 O4 ⊢
          clear hw4 m0 x0 x1 x2 e0 e1 e2 B3 O3 RO BR
          have m0 : w4.cell? ⟨g, 1, none⟩ = some (.slice (some ⟨blk, 0, none⟩) n d0) := (FG.out w4 B4.out).2.1.cell 1
          have e0 : w4.cell? ⟨blk, k * 3, none⟩ = some (.int .i64 ka2) := FE1.out w4 B4.out 0 (by decide)
          have e1 : w4.cell? ⟨blk, k * 3 + 1, none⟩ = some (.int .i64 kb2) := FE1.out w4 B4.out 1 (by decide)
          have e2 : w4.cell? ⟨blk, k * 3 + 2, none⟩ = some (.int .i64 kc2) := FE1.out w4 B4.out 2 (by decide)
          have hs4 := B4.out.size
          go_wp2_with (at_builtin; refine wpList_append_own _ rfl _ _ 23 rfl w1.heap.size 64 i0 _ 3 24 Tryz.underlying23 hi hz0 hz1 hz2 rfl (by decide) _ _ _ rfl (O4.out.alloc _) ⟨w4.heap.size, 0, none⟩ 1 1 [.int .i64 ka2, .int .i64 kb2, .int .i64 kc2] rfl rfl (World.news_of_block (cs := #[.int .i64 ka2, .int .i64 kb2, .int .i64 kc2]) (t := 64) (fr := (0, 0)) (heap_alloc_new w4 _)) (by simp [Value.oneCell']) (by unfold maxLen; omega) (by omega) (by simp; omega) ?_; intro v5 w5 hown5 hg5 _; have B5 := Lib.hid ((B4.out.alloc hs4 (.cells #[.int .i64 ka2, .int .i64 kb2, .int .i64 kc2] 64)).grown hg5 (Nat.le_trans hs4 (size_alloc _ _)) (fun i hi => (own_lt O4.out hi).1)); have hs5 := B5.out.size)
          obtain ⟨q5, d5, rfl⟩ := own_slice hown5
          have O5 := Lib.hid hown5
          clear hown5 hg5
          go_wp2
          go_roundw
          case rel => exact ⟨k + 1, f + 1, true, out ++ [⟨ka2, kb2, kc2⟩], by omega, by omega, by go_num, rfl, ⟨_, _, rfl⟩, Lib.hid (by have := HF.out; simp [this]), FF, Lib.hid (by
            rw [← flat_snoc, HYC.out]
            exact O5.out), B5⟩
          case measure => simp [RowKit.intOf]; omega
        | false =>
          by_cases hg : ka < ka2
          · have hF1 := far_len0 FR.out
            rw [HF.out] at hF1
            have FF := Lib.hid (FH.out k _ out FR.out HY.out hg)
            go_wp2_with fail
            go_quiet (fail)
            have B4 := Lib.hid (below_drewN B3.out nq)
            have O4 := Lib.hid (own_turn O3.out (turn_drewN w3 (fun _ => False) nq) (fun _ _ hf => hf))
            obtain ⟨w4, hw4⟩ : ∃ w4, w3.drewN nq = w4 := ⟨_, rfl⟩
            rw [hw4] at B4 O4 ⊢
            clear hw4 m0 x0 x1 x2 e0 e1 e2 B3 O3 RO BR hg
            have x0 : w4.cell? ⟨w.heap.size, 0, none⟩ = some (.int .i64 ka) := (FX.out w4 B4.out).cell 0
            have x1 : w4.cell? ⟨w.heap.size, 1, none⟩ = some (.int .i64 kb) := (FX.out w4 B4.out).cell 1
            have x2 : w4.cell? ⟨w.heap.size, 2, none⟩ = some (.int .i64 kc) := (FX.out w4 B4.out).cell 2
            have hs4 := B4.out.size
            go_wp2_with (first | (at_builtin; refine wpList_append_own _ rfl _ _ 23 rfl w1.heap.size 64 i0 _ 3 24 Tryz.underlying23 hi hz0 hz1 hz2 rfl (by decide) _ _ _ rfl (O4.out.alloc _) ⟨w4.heap.size, 0, none⟩ 1 1 [.int .i64 ka, .int .i64 kb, .int .i64 kc] rfl rfl (World.news_of_block (cs := #[.int .i64 ka, .int .i64 kb, .int .i64 kc]) (t := 64) (fr := (0, 0)) (heap_alloc_new w4 _)) (by simp [Value.oneCell']) (by unfold maxLen; omega) (by omega) (by simp; omega) ?_; intro v5 w5 hown5 hg5 _; have B5 := Lib.hid ((B4.out.alloc hs4 (.cells #[.int .i64 ka, .int .i64 kb, .int .i64 kc] 64)).grown hg5 (Nat.le_trans hs4 (size_alloc _ _)) (fun i hi => (own_lt O4.out hi).1)); have hs5 := B5.out.size; have m5 : w5.cell? ⟨g, 1, none⟩ = some (.slice (some ⟨blk, 0, none⟩) n d0) := (FG.out w5 B5.out).2.1.cell 1; have y0 : w5.cell? ⟨blk, k * 3, none⟩ = some (.int .i64 ka2) := FE1.out w5 B5.out 0 (by decide); have y1 : w5.cell? ⟨blk, k * 3 + 1, none⟩ = some (.int .i64 kb2) := FE1.out w5 B5.out 1 (by decide); have y2 : w5.cell? ⟨blk, k * 3 + 2, none⟩ = some (.int .i64 kc2) := FE1.out w5 B5.out 2 (by decide)) | (at_builtin; refine wpList_append_own _ rfl _ _ 23 rfl w1.heap.size 64 i0 _ 3 24 Tryz.underlying23 hi hz0 hz1 hz2 rfl (by decide) _ _ _ rfl (hown5.alloc _) ⟨w5.heap.size, 0, none⟩ 1 1 [.int .i64 ka2, .int .i64 kb2, .int .i64 kc2] rfl rfl (World.news_of_block (cs := #[.int .i64 ka2, .int .i64 kb2, .int .i64 kc2]) (t := 64) (fr := (0, 0)) (heap_alloc_new w5 _)) (by simp [Value.oneCell']) (by unfold maxLen; omega) (by omega) (by simp; omega) ?_; intro v6 w6 hown6 hg6 _; have B6 := Lib.hid ((B5.out.alloc hs5 (.cells #[.int .i64 ka2, .int .i64 kb2, .int .i64 kc2] 64)).grown hg6 (Nat.le_trans hs5 (size_alloc _ _)) (fun i hi => (own_lt hown5 hi).1)); have hs6 := B6.out.size))
            obtain ⟨q6, d6, rfl⟩ := own_slice hown6
            have O6 := Lib.hid hown6
            clear hown5 hg5 hown6 hg6
            go_wp2
            go_roundw
            case rel => exact ⟨k + 1, f + 2, true, out ++ [⟨ka, kb, kc⟩] ++ [⟨ka2, kb2, kc2⟩], by omega, by omega, by go_num, rfl, ⟨_, _, rfl⟩, Lib.hid (by have := HF.out; simp [this]), FF, Lib.hid (by
              rw [← flat_snoc, ← flat_snoc, HYC.out, HXC.out]
              exact O6.out), B6⟩
            case measure => simp [RowKit.intOf]; omega
          · have FF := Lib.hid (FN.out k _ out FR.out HY.out HA.out (by simpa using hg))
            have hg2 : decide (ka < ka2) = false := by simpa using hg
            clear hg
            go_wp2_with fail
            go_quiet (fail)
            have B4 := Lib.hid (below_drewN B3.out nq)
            have O4 := Lib.hid (own_turn O3.out (turn_drewN w3 (fun _ => False) nq) (fun _ _ hf => hf))
            obtain ⟨w4, hw4⟩ : ∃ w4, w3.drewN nq = w4 := ⟨_, rfl⟩
            rw [hw4] at B4 O4 ⊢
            clear hw4 m0 x0 x1 x2 e0 e1 e2 B3 O3 RO BR hg2
            have m0 : w4.cell? ⟨g, 1, none⟩ = some (.slice (some ⟨blk, 0, none⟩) n d0) := (FG.out w4 B4.out).2.1.cell 1
            have e0 : w4.cell? ⟨blk, k * 3, none⟩ = some (.int .i64 ka2) := FE1.out w4 B4.out 0 (by decide)
            have e1 : w4.cell? ⟨blk, k * 3 + 1, none⟩ = some (.int .i64 kb2) := FE1.out w4 B4.out 1 (by decide)
            have e2 : w4.cell? ⟨blk, k * 3 + 2, none⟩ = some (.int .i64 kc2) := FE1.out w4 B4.out 2 (by decide)
            have hs4 := B4.out.size
            go_wp2_with (at_builtin; refine wpList_append_own _ rfl _ _ 23 rfl w1.heap.size 64 i0 _ 3 24 Tryz.underlying23 hi hz0 hz1 hz2 rfl (by decide) _ _ _ rfl (O4.out.alloc _) ⟨w4.heap.size, 0, none⟩ 1 1 [.int .i64 ka2, .int .i64 kb2, .int .i64 kc2] rfl rfl (World.news_of_block (cs := #[.int .i64 ka2, .int .i64 kb2, .int .i64 kc2]) (t := 64) (fr := (0, 0)) (heap_alloc_new w4 _)) (by simp [Value.oneCell']) (by unfold maxLen; omega) (by omega) (by simp; omega) ?_; intro v5 w5 hown5 hg5 _; have B5 := Lib.hid ((B4.out.alloc hs4 (.cells #[.int .i64 ka2, .int .i64 kb2, .int .i64 kc2] 64)).grown hg5 (Nat.le_trans hs4 (size_alloc _ _)) (fun i hi => (own_lt O4.out hi).1)); have hs5 := B5.out.size)
            obtain ⟨q5, d5, rfl⟩ := own_slice hown5
            have O5 := Lib.hid hown5
            clear hown5 hg5
            go_wp2
            go_roundw
            case rel => exact ⟨k + 1, f + 1, false, out ++ [⟨ka2, kb2, kc2⟩], by omega, by omega, by go_num, rfl, ⟨_, _, rfl⟩, Lib.hid (by have := HF.out; simp [this]), FF, Lib.hid (by
              rw [← flat_snoc, HYC.out]
              exact O5.out), B5⟩
            case measure => simp [RowKit.intOf]; omega
    · obtain rfl : k = n := by omega
      have HE := Lib.hid (FZ.out done out FR.out)
      have mf : wr.frozen? ⟨g, 1, none⟩ = false := GR.2.1.frozen 1
      clear GR XR
      have hs := BR.out.size
      cases done with
      | true =>
        go_wp2
        go_ret
        rw [HE.out]
        exact FE.out w1 B1.out wr BR.out _ f out RO.out HF.out
      | false =>
        go_wp2_with (at_builtin; refine wpList_append_own _ rfl _ _ 23 rfl w1.heap.size 64 i0 _ 3 24 Tryz.underlying23 hi hz0 hz1 hz2 rfl (by decide) _ _ _ rfl (RO.out.alloc _) ⟨wr.heap.size, 0, none⟩ 1 1 [.int .i64 ka, .int .i64 kb, .int .i64 kc] rfl rfl (World.news_of_block (cs := #[.int .i64 ka, .int .i64 kb, .int .i64 kc]) (t := 64) (fr := (0, 0)) (heap_alloc_new wr _)) (by simp [Value.oneCell']) (by unfold maxLen; omega) (by omega) (by simp; omega) ?_; intro v5 w5 hown5 hg5 _; have B5 := Lib.hid ((BR.out.alloc hs (.cells #[.int .i64 ka, .int .i64 kb, .int .i64 kc] 64)).grown hg5 (Nat.le_trans hs (size_alloc _ _)) (fun i hi => (own_lt RO.out hi).1)); have hs5 := B5.out.size; have GF5 := (FG.out w5 B5.out).2.1.frozen 1; have GC5 := (FG.out w5 B5.out).2.1.cell 1; obtain ⟨q5, d5, rfl⟩ := own_slice hown5)
        have O5 := Lib.hid hown5
        clear hown5 hg5
        go_wp2
        go_ret
        rw [HE.out]
        exact FE.out w1 B1.out w5 B5.out _ (f + 1) (out ++ [⟨ka, kb, kc⟩]) (by rw [← flat_snoc, HXC.out]; exact O5.out) (by have := HF.out; simp [this])
end Ms
end Go.Proofs.YtkfmkchonlajpaaGreat

namespace Go.Proofs.YtkfmkchonlajpaaGreat
open Go.RowKit

namespace Ms
set_option maxRecDepth 100000 in
set_option maxHeartbeats 4000000 in
theorem raddZ_any (B g : Nat) (vz vp : Value) (Z : List Zn) (P : List Pd) (x : Zn) (w : World) (h : RM w B g vz vp Z P) (hL : Z.length ≤ 1000000) :
    Calls Tryz.prog 25 #[.pointer (some ⟨g, 0, none⟩), zval x] w (RAddZ w B g vz vp P (addZ Z x)) := by
  unfold addZ
  by_cases hr : rightZ x = true
  · rw [if_pos hr]
    exact raddZ_yes B g vz vp Z P x w h hr hL
  · rw [if_neg hr]
    have R := Lib.hid (fun W => rrightZ_any x W)
    rw [show rightZ x = false by simpa using hr] at R
    have B0 := Lib.hid (alloc_below w (.cells #[.int .i64 x.id, .int .i64 x.worst, .int .i64 x.gap, .int .i64 x.room, .bool x.dock, .int .i64 x.ajar] 61))
    have FS := Lib.hid (fun (W : World) (hW : Below w.heap.size w W) => raddZ_same (n := 1) h hW)
    clear hr h
    obtain ⟨a, b, c, d, e, f⟩ := x
    unfold zval at *
    simp only at R B0 ⊢
    go_enter Tryz.func25, Tryz.ntmps25
    go_wp2_with fail
    refine (R.out _).mono ?_
    rintro e w1 ⟨rfl, hb⟩
    have B1 := Lib.hid (B0.out.trans (hb.mono B0.out.size))
    clear hb
    go_wp2
    go_ret
    exact ⟨rfl, (FS.out _ B1.out).2⟩
set_option maxRecDepth 100000 in
set_option maxHeartbeats 4000000 in
theorem raddP_any (B g : Nat) (vz vp : Value) (Z : List Zn) (P : List Pd) (x : Pd) (w : World) (h : RM w B g vz vp Z P) (hL : P.length ≤ 1000000) :
    Calls Tryz.prog 26 #[.pointer (some ⟨g, 0, none⟩), pval x] w (RAddP w B g vz vp Z (addP P x)) := by
  unfold addP
  by_cases hr : rightP x = true
  · rw [if_pos hr]
    exact raddP_yes B g vz vp Z P x w h hr hL
  · rw [if_neg hr]
    have R := Lib.hid (fun W => rrightP_any x W)
    rw [show rightP x = false by simpa using hr] at R
    have B0 := Lib.hid (alloc_below w (.cells #[.int .i64 x.id, .int .i64 x.limit, .int .i64 x.budget] 64))
    have FS := Lib.hid (fun (W : World) (hW : Below w.heap.size w W) => raddP_same (n := 1) h hW)
    clear hr h
    obtain ⟨a, b, c⟩ := x
    unfold pval at *
    simp only at R B0 ⊢
    go_enter Tryz.func26, Tryz.ntmps26
    go_wp2_with fail
    refine (R.out _).mono ?_
    rintro e w1 ⟨rfl, hb⟩
    have B1 := Lib.hid (B0.out.trans (hb.mono B0.out.size))
    clear hb
    go_wp2
    go_ret
    exact ⟨rfl, (FS.out _ B1.out).2⟩
end Ms
end Go.Proofs.YtkfmkchonlajpaaGreat

namespace Go.Proofs.YtkfmkchonlajpaaGreat
open Go.RowKit

namespace Ms
def runZ (l : List Zn) : List Zn := l.foldl (fun S z => (addZ S z).2) []
def runP (l : List Pd) : List Pd := l.foldl (fun S z => (addP S z).2) []
theorem runZ_snoc (l : List Zn) (x : Zn) : runZ (l ++ [x]) = (addZ (runZ l) x).2 := by simp [runZ, List.foldl_append]
theorem runP_snoc (l : List Pd) (x : Pd) : runP (l ++ [x]) = (addP (runP l) x).2 := by simp [runP, List.foldl_append]
theorem foldZ_ok : ∀ (l : List Zn) (S : List Zn), GoodZ S → GoodZ (l.foldl (fun S z => (addZ S z).2) S) ∧ (l.foldl (fun S z => (addZ S z).2) S).length ≤ S.length + l.length
  | [], S, h => ⟨h, Nat.le_refl _⟩
  | x :: l, S, h => by
    have := foldZ_ok l (addZ S x).2 (goodZ_add h x)
    have h2 := addZ_len (S := S) (z := x)
    refine ⟨this.1, ?_⟩
    simp only [List.foldl_cons, List.length_cons]
    omega
theorem foldP_ok : ∀ (l : List Pd) (S : List Pd), GoodP S → GoodP (l.foldl (fun S z => (addP S z).2) S) ∧ (l.foldl (fun S z => (addP S z).2) S).length ≤ S.length + l.length
  | [], S, h => ⟨h, Nat.le_refl _⟩
  | x :: l, S, h => by
    have := foldP_ok l (addP S x).2 (goodP_add h x)
    have h2 := addP_len (S := S) (p := x)
    refine ⟨this.1, ?_⟩
    simp only [List.foldl_cons, List.length_cons]
    omega
theorem runZ_good (l : List Zn) : GoodZ (runZ l) := (foldZ_ok l [] goodZ_nil).1
theorem runP_good (l : List Pd) : GoodP (runP l) := (foldP_ok l [] goodP_nil).1
theorem runZ_len (l : List Zn) : (runZ l).length ≤ l.length := by have := (foldZ_ok l [] goodZ_nil).2; simpa [runZ] using this
theorem runP_len (l : List Pd) : (runP l).length ≤ l.length := by have := (foldP_ok l [] goodP_nil).2; simpa [runP] using this
/-- A master, and the document's one, side by side. -/
def Both (I : Face) (w W : World) (h g : Nat) (Z : List Zn) (P : List Pd) (Z2 : List Zn) (P2 : List Pd) : Prop :=
  ∃ F Bg vz vp, w.heap.size ≤ Bg ∧ I.DB W w.heap.size h F Z P ∧ RM W Bg g vz vp Z2 P2 ∧ (∀ k, F k → k ≠ g ∧ vz.ownBlock ≠ some k ∧ vp.ownBlock ≠ some k) ∧ Below w.heap.size w W
theorem both_below {I : Face} {w W w' : World} {h g : Nat} {Z Z2 : List Zn} {P P2 : List Pd} (hs : Both I w W h g Z P Z2 P2) (hb : Below W.heap.size W w') : Both I w w' h g Z P Z2 P2 := by
  obtain ⟨F, Bg, vz, vp, h1, h2, h3, h4, h5⟩ := hs
  exact ⟨F, Bg, vz, vp, h1, I.keep h2 hb, h3.keep hb, h4, h5.trans (hb.mono h5.size)⟩
theorem both_under {I : Face} {w W : World} {h g : Nat} {Z Z2 : List Zn} {P P2 : List Pd} (hs : Both I w W h g Z P Z2 P2) : Below w.heap.size w W := by
  obtain ⟨F, Bg, vz, vp, h1, h2, h3, h4, h5⟩ := hs
  exact h5
theorem both_m {I : Face} {w W w' : World} {h g : Nat} {F : Nat → Prop} {Bg : Nat} {vz vp : Value} {Z Z' Z2 : List Zn} {P P' P2 : List Pd} (h1 : w.heap.size ≤ Bg) (h2 : I.DB W w.heap.size h F Z P) (h3 : RM W Bg g vz vp Z2 P2) (h4 : ∀ k, F k → k ≠ g ∧ vz.ownBlock ≠ some k ∧ vp.ownBlock ≠ some k) (h5 : Below w.heap.size w W)
    (h' : ∃ F', I.DB w' w.heap.size h F' Z' P' ∧ Turn F W w' ∧ ∀ k, F' k → F k ∨ W.heap.size ≤ k) : Both I w w' h g Z' P' Z2 P2 := by
  obtain ⟨F', hd, ht, hk⟩ := h'
  refine ⟨F', Bg, vz, vp, h1, hd, h3.turn ht (fun hh => (h4 g hh).1 rfl) (fun k e hh => (h4 k hh).2.1 e) (fun k e hh => (h4 k hh).2.2 e), fun k hf => ?_, ht.below h5 h5.size (fun i hi => (I.foot h2 hi).1)⟩
  rcases hk k hf with hf | hf
  · exact h4 k hf
  · have hg := h3.2.1.lt
    exact ⟨by omega, fun e => by have := (own_lt h3.2.2.1 e).2; omega, fun e => by have := (own_lt h3.2.2.2 e).2; omega⟩
theorem both_Z1 {I : Face} {w W : World} {h g : Nat} {Z Z2 : List Zn} {P P2 : List Pd} (hs : Both I w W h g Z P Z2 P2) (hG : GoodZ Z) (hL : Z.length ≤ 1000) (z : Zn) :
    Calls Tryz.prog 19 #[.pointer (some ⟨h, 0, none⟩), zval z] W fun e w' => e = .returned (.int .i64 ((addZ Z z).1 : Nat)) ∧ Both I w w' h g (addZ Z z).2 P Z2 P2 := by
  obtain ⟨F, Bg, vz, vp, h1, h2, h3, h4, h5⟩ := hs
  exact (I.addZ _ h F Z P z W h2 hG hL).mono fun e w' ⟨he, h'⟩ => ⟨he, both_m h1 h2 h3 h4 h5 h'⟩
theorem both_P1 {I : Face} {w W : World} {h g : Nat} {Z Z2 : List Zn} {P P2 : List Pd} (hs : Both I w W h g Z P Z2 P2) (hG : GoodP P) (hL : P.length ≤ 1000) (z : Pd) :
    Calls Tryz.prog 20 #[.pointer (some ⟨h, 0, none⟩), pval z] W fun e w' => e = .returned (.int .i64 ((addP P z).1 : Nat)) ∧ Both I w w' h g Z (addP P z).2 Z2 P2 := by
  obtain ⟨F, Bg, vz, vp, h1, h2, h3, h4, h5⟩ := hs
  exact (I.addP _ h F Z P z W h2 hG hL).mono fun e w' ⟨he, h'⟩ => ⟨he, both_m h1 h2 h3 h4 h5 h'⟩
theorem both_Z2 {I : Face} {w W : World} {h g : Nat} {Z Z2 : List Zn} {P P2 : List Pd} (hs : Both I w W h g Z P Z2 P2) (hL : Z2.length ≤ 1000) (z : Zn) :
    Calls Tryz.prog 25 #[.pointer (some ⟨g, 0, none⟩), zval z] W fun e w' => e = .returned (.int .i64 ((addZ Z2 z).1 : Nat)) ∧ Both I w w' h g Z P (addZ Z2 z).2 P2 := by
  obtain ⟨F, Bg, vz, vp, h1, h2, h3, h4, h5⟩ := hs
  refine (raddZ_any Bg g vz vp Z2 P2 z W h3 (by omega)).mono fun e w' ⟨he, v', hr, ht, hv⟩ => ⟨he, F, Bg, v', vp, h1, I.turn h2 ht (fun k hk => (h4 k hk).1), hr, fun k hk => ⟨(h4 k hk).1, fun e => ?_, (h4 k hk).2.2⟩, ht.below h5 h5.size (fun i hi => by rw [hi]; exact Nat.le_trans h1 h3.1)⟩
  rcases hv with rfl | hv
  · exact (h4 k hk).2.1 e
  · have := hv k e
    have := (I.foot h2 hk).2
    omega
theorem both_P2 {I : Face} {w W : World} {h g : Nat} {Z Z2 : List Zn} {P P2 : List Pd} (hs : Both I w W h g Z P Z2 P2) (hL : P2.length ≤ 1000) (z : Pd) :
    Calls Tryz.prog 26 #[.pointer (some ⟨g, 0, none⟩), pval z] W fun e w' => e = .returned (.int .i64 ((addP P2 z).1 : Nat)) ∧ Both I w w' h g Z P Z2 (addP P2 z).2 := by
  obtain ⟨F, Bg, vz, vp, h1, h2, h3, h4, h5⟩ := hs
  refine (raddP_any Bg g vz vp Z2 P2 z W h3 (by omega)).mono fun e w' ⟨he, v', hr, ht, hv⟩ => ⟨he, F, Bg, vz, v', h1, I.turn h2 ht (fun k hk => (h4 k hk).1), hr, fun k hk => ⟨(h4 k hk).1, (h4 k hk).2.1, fun e => ?_⟩, ht.below h5 h5.size (fun i hi => by rw [hi]; exact Nat.le_trans h1 h3.1)⟩
  rcases hv with rfl | hv
  · exact (h4 k hk).2.2 e
  · have := hv k e
    have := (I.foot h2 hk).2
    omega
theorem both_rowZ1 {I : Face} {w W : World} {h g : Nat} {Z Z2 : List Zn} {P P2 : List Pd} (hs : Both I w W h g Z P Z2 P2) {m : Int} (h0 : -9223372036854775808 ≤ m) (h1 : m ≤ 9223372036854775807) :
    Calls Tryz.prog 75 #[.pointer (some ⟨h, 0, none⟩), .int .i64 m] W fun e w' => e = .returned (.tuple #[zval (getK (findK Zn.id m Z) zn0).1, .int .i64 ((getK (findK Zn.id m Z) zn0).2 : Nat)]) ∧ Both I w w' h g Z P Z2 P2 ∧ Below W.heap.size W w' := by
  have hs' := hs
  obtain ⟨F, Bg, vz, vp, _, h2, h3, h4, h5⟩ := hs
  exact (I.zone _ h F Z P m W h2 h0 h1).mono fun e w' ⟨he, hb⟩ => ⟨he, both_below hs' hb, hb⟩
theorem both_rowZ2 {I : Face} {w W : World} {h g : Nat} {Z Z2 : List Zn} {P P2 : List Pd} (hs : Both I w W h g Z P Z2 P2) (hL : Z2.length ≤ 1000) (m : Int) :
    Calls Tryz.prog 62 #[.pointer (some ⟨g, 0, none⟩), .int .i64 m] W fun e w' => e = .returned (.tuple #[zval (getK (findK Zn.id m Z2) zn0).1, .int .i64 ((getK (findK Zn.id m Z2) zn0).2 : Nat)]) ∧ Both I w w' h g Z P Z2 P2 ∧ Below W.heap.size W w' := by
  have hs' := hs
  obtain ⟨F, Bg, vz, vp, _, h2, h3, h4, h5⟩ := hs
  exact (rrowZ_any Bg g vz vp Z2 P2 m W h3 (by omega)).mono fun e w' ⟨he, hb⟩ => ⟨he, both_below hs' hb, hb⟩
/-- All of them: how they lie. -/
def LayZ (w : World) (q : Option Addr) (n : Nat) (L : List Zn) : Prop := Rw 6 zcells w q n L
theorem both_cellZ {I : Face} {w W : World} {h g : Nat} {Z Z2 : List Zn} {P P2 : List Pd} (hs : Both I w W h g Z P Z2 P2) {n : Nat} (hn : Z2.length = n) : ∃ q c, W.cell? ⟨g, 0, none⟩ = some (.slice q n c) ∧ LayZ W q n Z2 ∧ g < W.heap.size := by
  subst hn
  obtain ⟨F, Bg, vz, vp, _, h2, h3, h4, h5⟩ := hs
  obtain ⟨q, c, rfl, hc, hr⟩ := rw_own zcells_len h3.2.2.1
  exact ⟨q, c, h3.2.1.cell 0, hr, h3.2.1.lt⟩
theorem both_rowP1 {I : Face} {w W : World} {h g : Nat} {Z Z2 : List Zn} {P P2 : List Pd} (hs : Both I w W h g Z P Z2 P2) {m : Int} (h0 : -9223372036854775808 ≤ m) (h1 : m ≤ 9223372036854775807) :
    Calls Tryz.prog 52 #[.pointer (some ⟨h, 0, none⟩), .int .i64 m] W fun e w' => e = .returned (.tuple #[pval (getK (findK Pd.id m P) pd0).1, .int .i64 ((getK (findK Pd.id m P) pd0).2 : Nat)]) ∧ Both I w w' h g Z P Z2 P2 ∧ Below W.heap.size W w' := by
  have hs' := hs
  obtain ⟨F, Bg, vz, vp, _, h2, h3, h4, h5⟩ := hs
  exact (I.product _ h F Z P m W h2 h0 h1).mono fun e w' ⟨he, hb⟩ => ⟨he, both_below hs' hb, hb⟩
theorem both_rowP2 {I : Face} {w W : World} {h g : Nat} {Z Z2 : List Zn} {P P2 : List Pd} (hs : Both I w W h g Z P Z2 P2) (hL : P2.length ≤ 1000) (m : Int) :
    Calls Tryz.prog 65 #[.pointer (some ⟨g, 0, none⟩), .int .i64 m] W fun e w' => e = .returned (.tuple #[pval (getK (findK Pd.id m P2) pd0).1, .int .i64 ((getK (findK Pd.id m P2) pd0).2 : Nat)]) ∧ Both I w w' h g Z P Z2 P2 ∧ Below W.heap.size W w' := by
  have hs' := hs
  obtain ⟨F, Bg, vz, vp, _, h2, h3, h4, h5⟩ := hs
  exact (rrowP_any Bg g vz vp Z2 P2 m W h3 (by omega)).mono fun e w' ⟨he, hb⟩ => ⟨he, both_below hs' hb, hb⟩
/-- All of them: how they lie. -/
def LayP (w : World) (q : Option Addr) (n : Nat) (L : List Pd) : Prop := Rw 3 pcells w q n L
theorem both_cellP {I : Face} {w W : World} {h g : Nat} {Z Z2 : List Zn} {P P2 : List Pd} (hs : Both I w W h g Z P Z2 P2) {n : Nat} (hn : P2.length = n) : ∃ q c, W.cell? ⟨g, 1, none⟩ = some (.slice q n c) ∧ LayP W q n P2 ∧ g < W.heap.size := by
  subst hn
  obtain ⟨F, Bg, vz, vp, _, h2, h3, h4, h5⟩ := hs
  obtain ⟨q, c, rfl, hc, hr⟩ := rw_own pcells_len h3.2.2.2
  exact ⟨q, c, h3.2.1.cell 1, hr, h3.2.1.lt⟩

theorem both_start {I : Face} {w w1 : World} {h : Nat} {F : Nat → Prop} (hd : I.DB w1 w.heap.size h F [] []) (hb : Below w.heap.size w w1) : Both I w (w1.alloc (.cells #[.slice none 0 0, .slice none 0 0] 73)) h w1.heap.size [] [] [] [] := by
  have ha := alloc_below w1 (.cells #[.slice none 0 0, .slice none 0 0] 73)
  refine ⟨F, w1.heap.size, .slice none 0 0, .slice none 0 0, hb.size, I.keep hd ha, ⟨Nat.le_refl _, Lies.new w1 _ _, World.ownsRow_nil _ _ _ _, World.ownsRow_nil _ _ _ _⟩, fun k hk => ⟨?_, by simp [Value.ownBlock], by simp [Value.ownBlock]⟩, hb.trans (ha.mono hb.size)⟩
  have := (I.foot hd hk).2
  omega
theorem takeZ {α : Type} {L : List α} {k : Nat} {y : α} (hy : L[k]? = some y) : L.take (k + 1) = L.take k ++ [y] := take_one hy
end Ms
end Go.Proofs.YtkfmkchonlajpaaGreat
