/- Walks over package frame: what is read of bytes. No condition but those written. -/
import Derived.Test.YtbnnijcjlafcpaaFrP1
import Derived.Test.YtbnnijcjlafcpaaFrBk
import Derived.Test.YtbnnijcjlafcpaaOb3
import Derived.Deep.RegionHeld3
import Derived.StillTailTactics
namespace Go.Proofs.Ytbnnijcjlafcpaa
open Go.RowKit

namespace Fr
/-- The cells of what is being read. -/
def dcells (g : Nat) (f : Frm) : Array Value := #[.pointer (some ⟨g, 0, none⟩), .int .i64 f.zone, .int .i64 f.seq, .int .i64 f.minute, .bool f.door, .bool f.opn, .int .u64 (f.bits : Int)]
def Dr (w : World) (b g : Nat) (f : Frm) : Prop := Lies w b 75 (dcells g f)
theorem noU8_d (g : Nat) (f : Frm) : NoU8 (dcells g f) := by
  intro i x h
  match i with
  | 0 => simp [dcells] at h
  | 1 => simp [dcells] at h
  | 2 => simp [dcells] at h
  | 3 => simp [dcells] at h
  | 4 => simp [dcells] at h
  | 5 => simp [dcells] at h
  | 6 => simp [dcells] at h
  | i + 7 => simp [dcells] at h
theorem Dr.plain {w : World} {b g : Nat} {f : Frm} (h : Dr w b g f) : Plain w (fun k => k = b) := by
  rintro k rfl
  exact ⟨_, _, h, noU8_d g f⟩
/-- A number is read, and put into the frame. -/
theorem put_step {w w1 : World} {b g : Nat} {f : Frm} {s : Nat × List Nat} (f' : Frm) (hne : b ≠ g) (hd : Dr w b g f) (ht : Ob.Took w g s w1) (i : Nat) (u : Value) (e : (dcells g f).setIfInBounds i u = dcells g f') :
    Dr (w1.setCell ⟨b, i, none⟩ u) b g f' ∧ Ob.PR (w1.setCell ⟨b, i, none⟩ u) g s ∧ Turn (fun k => k = b ∨ k = g) w (w1.setCell ⟨b, i, none⟩ u) := by
  have hd1 : Dr w1 b g f := hd.turn ht.2 hne
  have t1 : Turn (fun k => k = b) w1 (w1.setCell ⟨b, i, none⟩ u) := (Turn.refl (fun k => k = b) w1).setCell (p := ⟨b, i, none⟩) (.inl rfl) u
  refine ⟨?_, ht.1.turn t1 hd1.plain (fun e => hne e.symm), (ht.2.mono (fun k _ hk => .inr hk)).trans t1 (fun k hk => .inl (.inl hk))⟩
  have := hd1.set_ i u
  rw [e] at this
  exact this
/-- As before, where nothing was read. -/
theorem put_only {w : World} {b g : Nat} {f : Frm} {s : Nat × List Nat} (f' : Frm) (hne : b ≠ g) (hd : Dr w b g f) (hp : Ob.PR w g s) (i : Nat) (u : Value) (e : (dcells g f).setIfInBounds i u = dcells g f') :
    Dr (w.setCell ⟨b, i, none⟩ u) b g f' ∧ Ob.PR (w.setCell ⟨b, i, none⟩ u) g s ∧ Turn (fun k => k = b ∨ k = g) w (w.setCell ⟨b, i, none⟩ u) :=
  put_step f' hne hd (Ob.took_refl hp) i u e
theorem Dr.facts {w : World} {b g : Nat} {f : Frm} (h : Dr w b g f) :
    (w.cell? ⟨b, 0, none⟩ = some (.pointer (some ⟨g, 0, none⟩)) ∧ w.cell? ⟨b, 1, none⟩ = some (.int .i64 f.zone) ∧ w.cell? ⟨b, 2, none⟩ = some (.int .i64 f.seq) ∧ w.cell? ⟨b, 3, none⟩ = some (.int .i64 f.minute) ∧
      w.cell? ⟨b, 4, none⟩ = some (.bool f.door) ∧ w.cell? ⟨b, 5, none⟩ = some (.bool f.opn) ∧ w.cell? ⟨b, 6, none⟩ = some (.int .u64 (f.bits : Int))) ∧
    (w.frozen? ⟨b, 1, none⟩ = false ∧ w.frozen? ⟨b, 2, none⟩ = false ∧ w.frozen? ⟨b, 3, none⟩ = false ∧ w.frozen? ⟨b, 4, none⟩ = false ∧ w.frozen? ⟨b, 5, none⟩ = false ∧ w.frozen? ⟨b, 6, none⟩ = false) :=
  ⟨⟨h.cell 0, h.cell 1, h.cell 2, h.cell 3, h.cell 4, h.cell 5, h.cell 6⟩, ⟨h.frozen 1, h.frozen 2, h.frozen 3, h.frozen 4, h.frozen 5, h.frozen 6⟩⟩
set_option maxRecDepth 100000 in
set_option maxHeartbeats 1000000 in
theorem place_any (b g : Nat) (f : Frm) (s : Nat × List Nat) (w : World) (hne : b ≠ g) (hd : Dr w b g f) (hp : Ob.PR w g s) :
    Calls Try.prog 47 #[.pointer (some ⟨b, 0, none⟩)] w fun e w' => e = .returned (.tuple #[]) ∧
      Dr w' b g ⟨((Oc.rnum s 1).1 : Nat), ((Oc.rnum (Oc.rnum s 1).2 2).1 : Nat), ((Oc.rnum (Oc.rnum (Oc.rnum s 1).2 2).2 3).1 : Nat), f.door, f.opn, f.bits⟩ ∧ Ob.PR w' g (Oc.rnum (Oc.rnum (Oc.rnum s 1).2 2).2 3).2 ∧ Turn (fun k => k = b ∨ k = g) w w' := by
  have l1 : (Oc.rnum s 1).1 < 256 := Oc.rnum_lt hp.lt256 1 1 rfl
  have m1 := Oc.rnum_mem hp.lt256 1
  have l2 : (Oc.rnum (Oc.rnum s 1).2 2).1 < 65536 := Oc.rnum_lt m1 2 2 rfl
  have m2 := Oc.rnum_mem m1 2
  have l3 : (Oc.rnum (Oc.rnum (Oc.rnum s 1).2 2).2 3).1 < 16777216 := Oc.rnum_lt m2 3 3 rfl
  have G1 := Lib.hid (fun W h => Ob.get_any g s 1 W h)
  have G2 := Lib.hid (fun W h => Ob.get_any g (Oc.rnum s 1).2 2 W h)
  have G3 := Lib.hid (fun W h => Ob.get_any g (Oc.rnum (Oc.rnum s 1).2 2).2 3 W h)
  generalize Oc.rnum (Oc.rnum (Oc.rnum s 1).2 2).2 3 = r3 at *
  generalize Oc.rnum (Oc.rnum s 1).2 2 = r2 at *
  generalize Oc.rnum s 1 = r1 at *
  obtain ⟨x1, s1⟩ := r1
  obtain ⟨x2, s2⟩ := r2
  obtain ⟨x3, s3⟩ := r3
  simp only at *
  clear m1 m2
  have l1' : (x1 : Int) < 256 := by omega
  have l2' : (x2 : Int) < 65536 := by omega
  have l3' : (x3 : Int) < 16777216 := by omega
  clear l1 l2 l3
  have HD := Lib.hid hd
  have HP := Lib.hid hp
  obtain ⟨⟨c0, _⟩, _⟩ := hd.facts
  clear hd hp
  go_enter Try.func47, Try.ntmps47
  go_wp2_with fail
  refine (G1.out _ HP.out).mono ?_
  rintro e w1 ⟨rfl, ht⟩
  obtain ⟨⟨d0, d1, _⟩, ⟨f1, _⟩⟩ := (show Dr w1 b g f from HD.out.turn ht.2 hne).facts
  have K1 := Lib.hid (put_step ⟨x1, f.seq, f.minute, f.door, f.opn, f.bits⟩ hne HD.out ht 1 (.int .i64 (x1 : Int)) rfl)
  clear ht c0
  go_wp2_with fail
  refine (G2.out _ K1.out.2.1).mono ?_
  rintro e w2 ⟨rfl, ht⟩
  clear d0 d1 f1
  obtain ⟨⟨d0, _, d1, _⟩, ⟨_, f1, _⟩⟩ := (show Dr w2 b g _ from K1.out.1.turn ht.2 hne).facts
  have K2 := Lib.hid (put_step ⟨x1, x2, f.minute, f.door, f.opn, f.bits⟩ hne K1.out.1 ht 2 (.int .i64 (x2 : Int)) rfl)
  clear ht
  go_wp2_with fail
  refine (G3.out _ K2.out.2.1).mono ?_
  rintro e w3 ⟨rfl, ht⟩
  clear d0 d1 f1
  obtain ⟨⟨d0, _, _, d1, _⟩, ⟨_, _, f1, _⟩⟩ := (show Dr w3 b g _ from K2.out.1.turn ht.2 hne).facts
  have K3 := Lib.hid (put_step ⟨x1, x2, x3, f.door, f.opn, f.bits⟩ hne K2.out.1 ht 3 (.int .i64 (x3 : Int)) rfl)
  clear ht
  go_wp2
  go_end0
  exact ⟨rfl, K3.out.1, K3.out.2.1, (K1.out.2.2.trans K2.out.2.2 (fun _ h => .inl h)).trans K3.out.2.2 (fun _ h => .inl h)⟩
set_option maxRecDepth 100000 in
set_option maxHeartbeats 1000000 in
theorem air_any (b g : Nat) (f : Frm) (s : Nat × List Nat) (w : World) (hne : b ≠ g) (hd : Dr w b g f) (hp : Ob.PR w g s) :
    Calls Try.prog 44 #[.pointer (some ⟨b, 0, none⟩)] w fun e w' => e = .returned (.tuple #[]) ∧
      Dr w' b g ⟨f.zone, f.seq, f.minute, f.door, f.opn, (Oc.rnum s 8).1⟩ ∧ Ob.PR w' g (Oc.rnum s 8).2 ∧ Turn (fun k => k = b ∨ k = g) w w' := by
  have G1 := Lib.hid (fun W h => Ob.get_any g s 8 W h)
  generalize Oc.rnum s 8 = r1 at *
  obtain ⟨x1, s1⟩ := r1
  simp only at *
  have HD := Lib.hid hd
  have HP := Lib.hid hp
  obtain ⟨⟨c0, _⟩, _⟩ := hd.facts
  clear hd hp
  go_enter Try.func44, Try.ntmps44
  go_wp2_with fail
  refine (G1.out _ HP.out).mono ?_
  rintro e w1 ⟨rfl, ht⟩
  obtain ⟨⟨d0, _, _, _, _, _, d1⟩, ⟨_, _, _, _, _, f1⟩⟩ := (show Dr w1 b g f from HD.out.turn ht.2 hne).facts
  have K1 := Lib.hid (put_step ⟨f.zone, f.seq, f.minute, f.door, f.opn, x1⟩ hne HD.out ht 6 (.int .u64 (x1 : Int)) rfl)
  clear ht c0
  go_wp2
  go_end0
  exact ⟨rfl, K1.out.1, K1.out.2.1, K1.out.2.2⟩
set_option maxRecDepth 100000 in
set_option maxHeartbeats 1000000 in
theorem door_any (b g : Nat) (f : Frm) (s : Nat × List Nat) (w : World) (hne : b ≠ g) (hd : Dr w b g f) (hp : Ob.PR w g s) :
    Calls Try.prog 46 #[.pointer (some ⟨b, 0, none⟩)] w fun e w' => e = .returned (.tuple #[]) ∧
      Dr w' b g ⟨f.zone, f.seq, f.minute, true, (Oc.rbool s).1, f.bits⟩ ∧ Ob.PR w' g (Oc.rbool s).2 ∧ Turn (fun k => k = b ∨ k = g) w w' := by
  have G1 := Lib.hid (fun W h => Ob.gbool_any g s W h)
  generalize Oc.rbool s = r1 at *
  obtain ⟨x1, s1⟩ := r1
  simp only at *
  have K0 := Lib.hid (put_only ⟨f.zone, f.seq, f.minute, true, f.opn, f.bits⟩ hne hd hp 4 (.bool true) rfl)
  obtain ⟨⟨c0, _, _, _, c4, _⟩, ⟨_, _, _, f4, _⟩⟩ := hd.facts
  clear hd hp
  go_enter Try.func46, Try.ntmps46
  go_wp2_with fail
  refine (G1.out _ K0.out.2.1).mono ?_
  rintro e w1 ⟨rfl, ht⟩
  clear c0 c4 f4
  obtain ⟨⟨d0, _, _, _, _, d1, _⟩, ⟨_, _, _, _, f1, _⟩⟩ := (show Dr w1 b g _ from K0.out.1.turn ht.2 hne).facts
  have K1 := Lib.hid (put_step ⟨f.zone, f.seq, f.minute, true, x1, f.bits⟩ hne K0.out.1 ht 5 (.bool x1) rfl)
  clear ht
  go_wp2
  go_end0
  exact ⟨rfl, K1.out.1, K1.out.2.1, K0.out.2.2.trans K1.out.2.2 (fun _ h => .inl h)⟩
end Fr
end Go.Proofs.Ytbnnijcjlafcpaa
