/- Package excess whole: what layer 7's laws lean on, as it is: one value of the bundle. No condition but those written. -/
import Derived.Test.YtfmnbmjfkplieaaExP8
import Derived.Test.YtfmnbmjfkplieaaExFace
namespace Go.Proofs.Ytfmnbmjfkplieaa
open Go.RowKit Se

namespace Ex
theorem reach_any (B h h0 : Nat) (F0 : Nat → Prop) (v : Value) (P : List Pt) (kn wo ga li : Int) (S : List Rd) (m : Int) (w : World) (hp : Idx w B h h0 F0 v P kn wo ga li S) (hs : Sorted S) (hr : ∀ x ∈ S, rightB x = true) (hm : mayB wo ga = true) (hl : tenB li = true) (hL : S.length ≤ 1000)
    (hm1 : m ≤ 1048576) :
    Calls Try.prog 46 #[.pointer (some ⟨h, 0, none⟩), .int .i64 m] w fun e w' => (∃ u, e = .returned u) ∧ Known w B h h0 F0 v m wo ga li S w' := by
  by_cases h1 : m ≤ kn
  · exact (reach_known B h h0 F0 v P kn wo ga li S m w hp h1).mono fun e w' ⟨he, hb⟩ => ⟨he, v, P, kn, hp.keep hb, h1, Turn.of_below hb, fun _ hk => .inl hk⟩
  · exact reach_new B h h0 F0 v P kn wo ga li S m w hp hs hr hm hl hL (by omega) hm1
theorem upto_any (B h h0 : Nat) (F0 : Nat → Prop) (v : Value) (P : List Pt) (kn wo ga li : Int) (S : List Rd) (m : Int) (w : World) (hp : Idx w B h h0 F0 v P kn wo ga li S) (hs : Sorted S) (hr : ∀ x ∈ S, rightB x = true) (hm : mayB wo ga = true) (hl : tenB li = true) (hL : S.length ≤ 1000)
    (hm0 : 0 ≤ m) (hm1 : m ≤ 1048576) :
    Calls Try.prog 26 #[.pointer (some ⟨h, 0, none⟩), .int .i64 m] w fun e w' => e = .returned (.int .i64 (run (exm wo ga li S) 0 m.toNat)) ∧ Known w B h h0 F0 v m wo ga li S w' :=
  upto_of B h h0 F0 wo ga li S m w (Known w B h h0 F0 v m wo ga li S) (exm_mild hm hr hl) hm0 hm1 (fun _ ⟨v', P', kn', h1, h2, _, _⟩ => ⟨v', P', kn', h1, h2⟩) (fun _ _ h1 h2 => h1.keep h2) (reach_any B h h0 F0 v P kn wo ga li S m w hp hs hr hm hl hL hm1)
theorem less_run {wo ga li : Int} {S : List Rd} (hf : Mild (exm wo ga li S)) (a b : Int) :
    St.St.fit (St.St.fit (run (exm wo ga li S) 0 (cou b).toNat) - St.St.fit (run (exm wo ga li S) 0 (cou a).toNat)) = tot wo ga li S a b := by
  have ha := cou_bd a
  have hb := cou_bd b
  rw [tot_cou]
  generalize exm wo ga li S = f at *
  generalize cou a = ca at *
  generalize cou b = cb at *
  have ra := run_top hf 0 ca.toNat (by omega)
  have rb := run_top hf 0 cb.toNat (by omega)
  rw [St.St.fit_mid ra.1 (by omega), St.St.fit_mid rb.1 (by omega)]
  by_cases h : ca ≤ cb
  · have e := run_more (f := f) ha.1 h
    have rc := run_top hf ca (cb - ca).toNat (by omega)
    rw [show max ca cb = cb by omega, St.St.fit_mid (by omega) (by omega)]
    omega
  · have e := run_more (f := f) hb.1 (show cb ≤ ca by omega)
    have rc := run_top hf cb (ca - cb).toNat (by omega)
    rw [show (max ca cb - ca).toNat = 0 by omega]
    show St.St.fit _ = 0
    by_cases h2 : run f 0 cb.toNat - run f 0 ca.toNat < 0
    · exact St.St.fit_neg h2
    · rw [show run f 0 cb.toNat - run f 0 ca.toNat = 0 by omega]
      exact St.St.fit_mid (by omega) (by omega)
set_option maxRecDepth 100000 in
set_option maxHeartbeats 4000000 in
theorem xidx_sum (B h h0 : Nat) (F0 : Nat → Prop) (v : Value) (P : List Pt) (kn wo ga li : Int) (S : List Rd) (a b : Int) (w : World) (hp : Idx w B h h0 F0 v P kn wo ga li S) (hs : Sorted S) (hr : ∀ x ∈ S, rightB x = true) (hm : mayB wo ga = true) (hl : tenB li = true) (hL : S.length ≤ 1000) :
    Calls Try.prog 12 #[.pointer (some ⟨h, 0, none⟩), .int .i64 a, .int .i64 b] w fun e w' => e = .returned (.int .i64 (tot wo ga li S a b)) ∧ PutX w B h (Own3 h F0 v) wo ga li S w' := by
  have LR := Lib.hid (less_run (exm_mild hm hr hl) a b)
  have CA := Lib.hid (fun W => counted_any a W)
  have CB := Lib.hid (fun W => counted_any b W)
  have ha := cou_bd a
  have hb := cou_bd b
  have UA := Lib.hid (fun W v' P' kn' (hq : Idx W B h h0 F0 v' P' kn' wo ga li S) => upto_any B h h0 F0 v' P' kn' wo ga li S (cou a) W hq hs hr hm hl hL ha.1 ha.2)
  have UB := Lib.hid (upto_any B h h0 F0 v P kn wo ga li S (cou b) w hp hs hr hm hl hL hb.1 hb.2)
  have LS := Lib.hid (fun W => St.less_any (run (exm wo ga li S) 0 (cou b).toNat) (run (exm wo ga li S) 0 (cou a).toNat) W)
  rw [LR.out] at LS
  generalize run (exm wo ga li S) 0 (cou b).toNat = rb at *
  generalize run (exm wo ga li S) 0 (cou a).toNat = ra at *
  generalize cou a = ca at *
  generalize cou b = cb at *
  generalize tot wo ga li S a b = u at *
  have HF := Lib.hid (fun k => hp.foot (k := k))
  clear hp hs hr hm hl hL ha hb
  go_enter Try.func12, Try.ntmps12
  go_wp2_with fail
  refine (CB.out _).mono ?_
  rintro e w1 ⟨rfl, rfl⟩
  go_wp2_with fail
  refine UB.out.mono ?_
  rintro e w1 ⟨rfl, v1, P1, k1, h1, _, h3, h4⟩
  have I1 := Lib.hid h1
  have T1 := Lib.hid h3
  have V1 := Lib.hid h4
  clear h1 h3 h4 UB CB
  go_wp2_with fail
  refine (CA.out _).mono ?_
  rintro e w2 ⟨rfl, rfl⟩
  go_wp2_with fail
  refine (UA.out _ v1 P1 k1 I1.out).mono ?_
  rintro e w2 ⟨rfl, v2, P2, k2, h1, _, h3, h4⟩
  have I2 := Lib.hid h1
  have T2 := Lib.hid h3
  have V2 := Lib.hid h4
  clear h1 h3 h4 UA CA
  go_wp2_with fail
  refine (LS.out _).mono ?_
  rintro e w3 ⟨rfl, rfl⟩
  go_wp2
  go_ret
  have TW := (T1.out.mono (S' := Own3 h F0 v) (fun _ _ hk => hk.elim .inl (fun h1 => .inr (.inr h1)))).trans T2.out (fun k hk => by
    rcases hk with hk | hk
    · exact .inl (.inl hk)
    · rcases V1.out k hk with h1 | h1
      · exact .inl (.inr (.inr h1))
      · exact .inr h1)
  refine ⟨rfl, Own3 h F0 v2, ⟨h0, F0, v2, P2, k2, I2.out, rfl⟩, TW, fun k hk => ?_⟩
  rcases hk with hk | hk | hk
  · exact .inl (.inl hk)
  · exact .inl (.inr (.inl hk))
  · rcases V2.out k hk with h1 | h1
    · rcases V1.out k h1 with h2 | h2
      · exact .inl (.inr (.inr h2))
      · exact .inr h2
    · exact .inr (Nat.le_trans T1.out.size h1)
/-- The bundle. -/
def xface : Face where
  IX := IXF
  foot := fun ⟨_, _, _, _, _, hp, e⟩ hk => hp.foot (e ▸ hk)
  turn := fun ⟨h0, F0, v, P, kn, hp, e⟩ ht hs => ⟨h0, F0, v, P, kn, hp.turn ht (fun k hk => hs k (e ▸ hk)), e⟩
  new_yes := xnew_yes
  new_no := xnew_no
  put := fun B h F wo ga li S r w ⟨h0, F0, v, P, kn, hp, e⟩ hs hr _ _ hL => by
    subst e
    exact xput_any B h h0 F0 v P kn wo ga li S r w hp hs hr hL
  sum := fun B h F wo ga li S a b w ⟨h0, F0, v, P, kn, hp, e⟩ hs hr hm hl hL _ _ _ _ => by
    subst e
    exact xidx_sum B h h0 F0 v P kn wo ga li S a b w hp hs hr hm hl hL
  ser := fun B h F wo ga li S w ⟨h0, F0, v, P, kn, hp, _⟩ hs hr hm _ hL => xser_any B h h0 F0 v P kn wo ga li S w hp hs hr hm hL
  ssum := fun B h F wo ga li S a b w hp hs hr hm hl hL _ _ _ _ => xsum_yes B h F wo ga li S a b w hp hs hr hm hl hL
  ssum_no := fun _ h _ _ _ li _ a b w _ hl => xsum_no h li a b w hl
  nil_ssum := xsum_nil
  nil_put := nil_put
  nil_sum := nil_sum
  nil_ser := nil_ser
end Ex
end Go.Proofs.Ytfmnbmjfkplieaa
