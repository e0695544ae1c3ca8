/- Walks over package excess: the sum up to a minute that is known. Conditions: an index whose parts reckon what they say. -/
import Derived.Test.YtfmnbmjfkplieaaExP6
namespace Go.Proofs.Ytfmnbmjfkplieaa
open Go.RowKit Se

namespace Ex
/-- An index that is known up to a minute. -/
def Known (w : World) (B h h0 : Nat) (F0 : Nat → Prop) (v : Value) (m wo ga li : Int) (S : List Rd) (w' : World) : Prop :=
  ∃ v' P' kn', Idx w' B h h0 F0 v' P' kn' wo ga li S ∧ m ≤ kn' ∧ Turn (fun k => k = h ∨ v.ownBlock = some k) w w' ∧ ∀ k, v'.ownBlock = some k → v.ownBlock = some k ∨ w.heap.size ≤ k
theorem reach_known (B h h0 : Nat) (F0 : Nat → Prop) (v : Value) (P : List Pt) (kn wo ga li : Int) (S : List Rd) (m : Int) (w : World) (hp : Idx w B h h0 F0 v P kn wo ga li S) (hm : m ≤ kn) :
    Calls Try.prog 46 #[.pointer (some ⟨h, 0, none⟩), .int .i64 m] w fun e w' => (∃ u, e = .returned u) ∧ Below w.heap.size w w' := by
  have B0 := Lib.hid ((alloc_below w (.cells #[.pointer (some ⟨h, 0, none⟩)] 27)).alloc (by simp) (.cells #[.int .i64 m] 3))
  obtain ⟨w2, hw2⟩ : ∃ w2, (w.alloc (.cells #[.pointer (some ⟨h, 0, none⟩)] 27)).alloc (.cells #[.int .i64 m] 3) = w2 := ⟨_, rfl⟩
  have L2 : Lies w2 w.heap.size 27 #[.pointer (some ⟨h, 0, none⟩)] := by
    rw [← hw2]
    exact (Lies.new _ _ _).alloc _
  have L3 : Lies w2 (w.heap.size + 1) 3 #[.int .i64 m] := by
    rw [← hw2]
    have := Lies.new (w.alloc (.cells #[.pointer (some ⟨h, 0, none⟩)] 27)) 3 #[.int .i64 m]
    rwa [World.size_alloc] at this
  rw [hw2] at B0
  have c2 : w2.cell? ⟨w.heap.size, 0, none⟩ = some (.pointer (some ⟨h, 0, none⟩)) := L2.cell 0
  have c3 : w2.cell? ⟨w.heap.size + 1, 0, none⟩ = some (.int .i64 m) := L3.cell 0
  have HP := Lib.hid (hp.keep B0.out)
  have k3 : w2.cell? ⟨h, 3, none⟩ = some (.int .i64 kn) := HP.out.box.cell 3
  clear hp L2 L3
  go_enter Try.func46, Try.ntmps46
  go_wp2
  clear hw2
  go_quiet (fail)
  go_wp2
  refine bodyPost_ret (results_none rfl _ _ _) rfl ?_
  exact ⟨⟨_, rfl⟩, below_drewN B0.out nq⟩
theorem frm_bd {f : Int → Int} (hf : Mild f) {P : List Pt} {kn m : Int} (h : Rec f P kn) {j : Nat} {x : Pt} (hx : P[j]? = some x) (hm : m ≤ 1048576) (hl : x.frm < m) :
    0 ≤ x.bef ∧ x.bef ≤ 4611686018427387904 ∧ 0 ≤ x.exc ∧ x.exc ≤ 2199023255552 ∧ 0 ≤ m - x.frm ∧ m - x.frm ≤ 1048576 := by
  have h1 := h.inn j x hx
  have h2 := h.bef j x hx
  have h3 := run_top hf 0 x.frm.toNat (by have := h.hi; omega)
  have h4 : f x.frm = x.exc := h.exc j x hx x.frm (Int.le_refl _) h1.2 (fun _ _ _ hh => hh)
  have h5 := hf x.frm
  omega
theorem Known.keep {w w1 w2 : World} {B h h0 : Nat} {F0 : Nat → Prop} {v : Value} {m wo ga li : Int} {S : List Rd} (hk : Known w B h h0 F0 v m wo ga li S w1) (hb : Below w1.heap.size w1 w2) : Known w B h h0 F0 v m wo ga li S w2 := by
  obtain ⟨v', P', kn', h1, h2, h3, h4⟩ := hk
  exact ⟨v', P', kn', h1.keep hb, h2, h3.trans (Turn.of_below (S := fun _ => False) hb) (fun _ hf => hf.elim), h4⟩
set_option maxRecDepth 100000 in
set_option maxHeartbeats 4000000 in
theorem upto_of (B h h0 : Nat) (F0 : Nat → Prop) (wo ga li : Int) (S : List Rd) (m : Int) (w : World) (X : World → Prop) (hf : Mild (exm wo ga li S)) (hm0 : 0 ≤ m) (hm1 : m ≤ 1048576)
    (hX : ∀ w1, X w1 → ∃ v P kn, Idx w1 B h h0 F0 v P kn wo ga li S ∧ m ≤ kn) (hXk : ∀ w1 w2, X w1 → Below w1.heap.size w1 w2 → X w2)
    (hr : Calls Try.prog 46 #[.pointer (some ⟨h, 0, none⟩), .int .i64 m] w fun e w' => (∃ u, e = .returned u) ∧ X w') :
    Calls Try.prog 26 #[.pointer (some ⟨h, 0, none⟩), .int .i64 m] w fun e w' => e = .returned (.int .i64 (run (exm wo ga li S) 0 m.toNat)) ∧ X w' := by
  have R := Lib.hid hr
  have HF := Lib.hid hf
  have HX := Lib.hid hX
  have HXK := Lib.hid hXk
  generalize hfe : exm wo ga li S = f at *
  have HE := Lib.hid hfe
  clear hr hf hfe hX hXk
  go_enter Try.func26, Try.ntmps26
  go_wp2_with fail
  refine R.out.mono ?_
  rintro e w1 ⟨⟨u, rfl⟩, hk⟩
  have K1 := Lib.hid hk
  obtain ⟨v1, P1, kn1, h1, h2⟩ := HX.out _ hk
  have A := Lib.hid (ahead_any B h h0 F0 v1 P1 kn1 wo ga li S m w1 h1)
  have I1 := Lib.hid h1
  have M1 := Lib.hid h2
  clear R h1 h2 hk
  go_wp2_with fail
  refine A.out.mono ?_
  rintro e w2 ⟨n, rfl, ha, hb⟩
  have A2 := Lib.hid ha
  have K2 := Lib.hid (HXK.out _ _ K1.out hb)
  have I2 := Lib.hid (I1.out.keep hb)
  clear ha hb A K1 I1
  by_cases hn : n = 0
  · subst hn
    have E := Lib.hid (show run f 0 m.toNat = 0 from by rw [rec_zero I2.out.rk A2.out hm0 M1.out]; rfl)
    go_wp2
    go_ret
    exact ⟨by rw [E.out]; rfl, K2.out⟩
  · have RK := Lib.hid (show Rec f P1 kn1 from HE.out ▸ I2.out.rk)
    have hnl := A2.out.1
    obtain ⟨x, hx⟩ : ∃ x, P1[n - 1]? = some x := ⟨_, List.getElem?_eq_getElem (by omega)⟩
    obtain ⟨s1, s2, s3⟩ := rec_sum RK.out A2.out (by omega) M1.out hx
    obtain ⟨b1, b2, b3, b4, b5, b6⟩ := frm_bd HF.out RK.out hx hm1 s2
    have E := Lib.hid ((show St.St.cap (x.bef + x.exc * (m - x.frm)) = run f 0 m.toNat from by
      have := run_top HF.out 0 m.toNat (by omega)
      rw [s3, St.St.cap_mid (by omega)]))
    obtain ⟨q, d, rfl, hd, hA⟩ := rw_own pcells_len I2.out.row
    have c2 : w2.cell? ⟨h, 2, none⟩ = some (.slice q P1.length d) := I2.out.box.cell 2
    obtain ⟨b, o, rfl, hcl⟩ := hA.2 (by omega)
    obtain ⟨j, hj⟩ : ∃ j : Nat, n - 1 = j := ⟨_, rfl⟩
    rw [hj] at hx
    have e0 : w2.cell? ⟨b, o + j * 3, none⟩ = some (.int .i64 x.frm) := hcl j x hx 0 (by decide)
    have e1 : w2.cell? ⟨b, o + j * 3 + 1, none⟩ = some (.int .i64 x.bef) := hcl j x hx 1 (by decide)
    have e2 : w2.cell? ⟨b, o + j * 3 + 2, none⟩ = some (.int .i64 x.exc) := hcl j x hx 2 (by decide)
    have q1 : (n : Int) - 1 = (j : Int) := by omega
    have j0 : (j : Int) < (P1.length : Int) := by omega
    have j1 : (j : Int) < (d : Int) := by omega
    have n0 : ((n : Int) == 0) = false := by simp; omega
    have hnb : (n : Int) ≤ 1048576 := by
      have := rec_len RK.out
      omega
    have hn1 : (1 : Int) ≤ (n : Int) := by omega
    obtain ⟨x0, x1, x2⟩ := x
    simp only at s1 s2 b1 b2 b3 b4 b5 b6 E e0 e1 e2
    have L := Lib.hid (fun W => longer_any x1 x2 (m - x0) W b1 b2 b3 b4 b5 b6)
    have B3 := Lib.hid (alloc_below w2 (.cells #[.int .i64 x0, .int .i64 x1, .int .i64 x2] 76))
    clear hcl hx hA s3 hj hnl hd I2 RK A2 M1 b1 b2 b3 b4
    go_wp2_with fail
    refine (L.out _).mono ?_
    rintro e w3 ⟨rfl, hb⟩
    have B4 := Lib.hid (B3.out.trans (hb.mono B3.out.size))
    clear hb
    go_wp2
    go_ret
    exact ⟨by rw [← E.out]; rfl, HXK.out _ _ K2.out B4.out⟩
theorem upto_known (B h h0 : Nat) (F0 : Nat → Prop) (v : Value) (P : List Pt) (kn wo ga li : Int) (S : List Rd) (m : Int) (w : World) (hp : Idx w B h h0 F0 v P kn wo ga li S) (hf : Mild (exm wo ga li S)) (hm0 : 0 ≤ m) (hm : m ≤ kn) :
    Calls Try.prog 26 #[.pointer (some ⟨h, 0, none⟩), .int .i64 m] w fun e w' => e = .returned (.int .i64 (run (exm wo ga li S) 0 m.toNat)) ∧ Below w.heap.size w w' :=
  upto_of B h h0 F0 wo ga li S m w (fun w' => Below w.heap.size w w') hf hm0 (Int.le_trans hm hp.rk.hi) (fun _ hb => ⟨v, P, kn, hp.keep hb, hm⟩) (fun _ _ h1 h2 => h1.trans (h2.mono h1.size)) (reach_known B h h0 F0 v P kn wo ga li S m w hp hm)
end Ex
end Go.Proofs.Ytfmnbmjfkplieaa
