/- Walks over the document's answer of layer 13: the exposure of stays. No condition but those written. Walks over package stays: may stays be, does the last one go on, may something be done now. Condition: the list reads as stays. Walks over package ledger: Put; Exposure. Condition: the contracts of package stays. Walks over package ledger: a zone comes. No condition but those written. -/
import Derived.Test.YtehiclmkdpcplaaQ10
import Derived.Test.YtehiclmkdpcplaaQ04
import Derived.Lib.QuietBelow
import Derived.BigQuiet
import Derived.Test.YtehiclmkdpcplaaQ05
import Derived.Deep.QuietTactic
import Derived.Test.YtehiclmkdpcplaaQ09
import Derived.Test.YtehiclmkdpcplaaQ07
namespace Go.Proofs.Ytehiclmkdpcplaa
open Go.RowKit

namespace Lg
open Se Ex
theorem uptoV_ok {S : List Sy.Sy} {m : Int} (h : Sok S) (hm : I64 m) : Sok (Sy.uptoV S m) := by
  intro s hs
  unfold Sy.uptoV at hs
  split at hs
  · obtain ⟨t, ht, _, rfl⟩ := Sy.upto_mem hs
    have := h t ht
    unfold Sy.cut
    split
    · exact ⟨this.1, this.2.1, hm⟩
    · exact this
  · simp at hs
theorem uptoV_len (S : List Sy.Sy) (m : Int) : (Sy.uptoV S m).length ≤ S.length := by
  unfold Sy.uptoV
  split
  · exact Sy.upto_len S m
  · simp
/-- A zone's sum, of any limit. -/
theorem rsum_zone {W : World} {B : Nat} {y : Rz} (s1 : RSer W B y.g y.v y.z.wo y.z.ga y.L) (s2 : Like y.z.S y.L) (s3 : Apart y.L) (hR : ∀ x ∈ y.L, rightB x = true) (hm : mayB y.z.wo y.z.ga = true) (hL : y.L.length ≤ 1000000) (lim a b : Int) (ha : a ≤ 9223372036854775807) (hb : b ≤ 9223372036854775807) :
    Calls Try.prog 29 #[.pointer (some ⟨y.g, 0, none⟩), .int .i64 lim, .int .i64 a, .int .i64 b] W fun e w' => e = .returned (.int .i64 (totV lim y.z a b)) ∧ Below W.heap.size W w' := by
  unfold totV
  by_cases hl : tenB lim = true
  · rw [if_pos hl, tot_like s3 s2]
    exact rsum_yes B y.g y.v y.z.wo y.z.ga lim y.L a b W s1 hR hm hl hL ha hb
  · rw [if_neg hl]
    exact rsum_no B y.g y.v y.z.wo y.z.ga lim y.L a b W s1 (by simpa using hl)
theorem step_none {l : List Zl} {lim o : Int} {t : Sy.Sy} (h : atZ t.zone l = none) : stepE l lim o t = o := by unfold stepE; rw [h]
theorem step_some {l : List Zl} {lim o : Int} {t : Sy.Sy} {i : Nat} {x : Zl} (h : atZ t.zone l = some i) (hx : l[i]? = some x) : stepE l lim o t = St.St.cap (St.St.fit o + St.St.fit (totV lim x t.frm t.to)) := by unfold stepE; rw [h]; simp only [hx]
theorem fold_next {l : List Zl} {lim : Int} {U : List Sy.Sy} {k : Nat} {t : Sy.Sy} (h : U[k]? = some t) : (U.take (k + 1)).foldl (stepE l lim) 0 = stepE l lim ((U.take k).foldl (stepE l lim) 0) t := by
  rw [List.take_add_one, h]
  simp
set_option maxRecDepth 100000 in
set_option maxHeartbeats 8000000 in
theorem r13expo_any (B g : Nat) (F : Nat → Prop) (st : List Zl) (lim : Int) (p : Option Addr) (pn pc : Nat) (S : List Sy.Sy) (m : Int) (w : World) (h : Rg w B g F st) (hL : st.length ≤ 1000000) (hG : Good st 100000) (hr : Rw 3 Sy.scells w p pn S) (hpn : pn ≤ 100000) (hS : Sok S) (hm : I64 m) :
    Calls Try.prog 11 #[.pointer (some ⟨g, 0, none⟩), .int .i64 lim, .slice p pn pc, .int .i64 m] w fun e w' => e = .returned (.int .i64 (expo st lim S m)) ∧ Below w.heap.size w w' := by
  obtain ⟨vI, vS, l, hrg, rfl, rfl⟩ := h
  have hLl : l.length ≤ 1000000 := by have : (zls l).length = l.length := List.length_map ..; omega
  obtain ⟨ip, ic, q, d, rfl, rfl, _, _⟩ := rlg_slices hrg
  obtain ⟨n, hn⟩ : ∃ n, l.length = n := ⟨_, rfl⟩
  have HN := Lib.hid hn
  rw [hn] at hrg
  have CU := Lib.hid (Sy.r9upto_any p pn pc S m w hr (by omega))
  have HU := Lib.hid (uptoV_ok hS hm)
  have hUl := uptoV_len S m
  rw [hr.1] at hUl
  have HX : Hid (expo (zls l) lim S m = (Sy.uptoV S m).foldl (stepE (zls l) lim) 0) := Lib.hid rfl
  have HGo := Lib.hid hG
  have HR := Lib.hid hrg
  have AT := Lib.hid (fun W (hW : Below w.heap.size w W) (zi : Int) => r13at_any B g (.slice ip n ic) (.slice q n d) l zi W (hrg.keep hW) hLl)
  rw [HX.out]
  generalize Sy.uptoV S m = U at *
  obtain ⟨N, hN⟩ : ∃ N, U.length = N := ⟨_, rfl⟩
  have HUN := Lib.hid hN
  rw [hN] at hUl
  have hNb : (N : Int) ≤ 100000 := by omega
  clear hrg hG hr hS hL hLl hn hN HX hm
  go_enter Try.func11, Try.ntmps11
  go_wp2_with fail
  refine CU.out.mono ?_
  intro e w2 he
  obtain ⟨v, rfl, ho, hb2⟩ := he
  obtain ⟨uq, ud, rfl⟩ := own_slice ho
  have KO := Lib.hid ho
  have B2 := Lib.hid hb2
  rw [HUN.out] at KO ⊢
  clear ho hb2 CU
  go_wp2_with fail
  go_loopw [9, 11] (fun o i wr => ∃ k : Nat, k ≤ N ∧ i = .int .i64 k ∧ o = .int .i64 ((U.take k).foldl (stepE (zls l) lim) 0) ∧ Hid (Below w2.heap.size w2 wr)) (fun _ i _ => N - (RowKit.intOf i).toNat)
  case atStart => exact ⟨0, Nat.zero_le _, rfl, rfl, Lib.hid (Below.refl _ _)⟩
  case round =>
    obtain ⟨k, hk, rfl, rfl, BR⟩ := hrel
    have BA := Lib.hid (B2.out.trans (BR.out.mono B2.out.size))
    by_cases hlt : k < N
    · have hk3 : (k : Int) < (N : Int) := by omega
      obtain ⟨t, ht⟩ : ∃ t, U[k]? = some t := ⟨_, List.getElem?_eq_getElem (by rw [HUN.out]; exact hlt)⟩
      obtain ⟨b, c2, e, hb1, hb2, _⟩ := own_some KO.out (by omega)
      cases e
      have hcell : ∀ j, j < 3 → wr.cell? ⟨b, k * 3 + j, none⟩ = (Sy.scells t)[j]? := fun j hj => (BR.out.cell (p := ⟨b, k * 3 + j, none⟩) hb2).trans (row_cell Sy.scells_len KO.out HUN.out ht hj)
      have hu := HU.out t (List.mem_of_getElem? ht)
      have FN := Lib.hid (fold_next (l := zls l) (lim := lim) ht)
      have e0 : wr.cell? ⟨b, k * 3, none⟩ = some (.int .i64 t.zone) := hcell 0 (by decide)
      have e1 : wr.cell? ⟨b, k * 3 + 1, none⟩ = some (.int .i64 t.frm) := hcell 1 (by decide)
      have e2 : wr.cell? ⟨b, k * 3 + 2, none⟩ = some (.int .i64 t.to) := hcell 2 (by decide)
      have A1 := Lib.hid (AT.out wr BA.out t.zone)
      generalize (U.take k).foldl (stepE (zls l) lim) 0 = o at *
      rcases at_cases t.zone l with ⟨hz, hi⟩ | ⟨i, y, hz, hi, hy, hyz⟩
      · rw [hi] at A1
        have FE := Lib.hid (FN.out.trans (step_none hz))
        clear hz hi ht hb1 hb2 hcell hu FN
        go_wp2_with fail
        refine A1.out.mono ?_
        rintro e w3 ⟨rfl, rfl⟩
        go_wp2
        go_roundw
        case rel => exact ⟨k + 1, by omega, by go_num, by rw [FE.out], BR⟩
        case measure => simp [RowKit.intOf]; omega
      · rw [hi] at A1
        have FE := Lib.hid (FN.out.trans (step_some hz hyz))
        obtain ⟨bS, rfl, hin, m1, c3, _, s1, s2, s3, hyl, hR, hmay, _, hnd⟩ := zone_here (HR.out.keep BA.out) HN.out hy HGo.out (by decide)
        have CS := Lib.hid (fun W (hW : Below wr.heap.size wr W) => rsum_zone (s1.below hW) s2 s3 hR hmay hyl lim t.frm t.to hu.2.1.2 hu.2.2.2)
        generalize totV lim y.z t.frm t.to = tv at *
        generalize y.g = yg at *
        have CT := Lib.hid (fun W => St.two_any o tv W)
        generalize St.St.cap (St.St.fit o + St.St.fit tv) = o2 at *
        obtain ⟨tz, tf, tt⟩ := t
        simp only at e0 e1 e2 CS A1
        clear hz hi ht hb1 hb2 hcell hu FN hy hyz s1 s2 s3 hyl hR hmay
        go_wp2_with fail
        refine A1.out.mono ?_
        rintro e w3 ⟨rfl, rfl⟩
        go_upto_region 8 with fail
        have cS : ∀ d os, Calls Try.prog 29 #[.pointer (some ⟨yg, 0, none⟩), .int .i64 lim, .int .i64 tf, .int .i64 tt] (Sort.grow (redrawn wr d) os) fun e w'' => e = .returned (.int .i64 tv) ∧ ∃ q : Regrown, w'' = Sort.grow (redrawn wr q.d) q.os :=
          fun d os => Calls.regrown_of (CS.out _ (below_regrown wr d os))
        have cT : ∀ d os, Calls Try.prog 28 #[.int .i64 o, .int .i64 tv] (Sort.grow (redrawn wr d) os) fun e w'' => e = .returned (.int .i64 o2) ∧ ∃ q : Regrown, w'' = Sort.grow (redrawn wr q.d) q.os :=
          fun d os => Calls.regrown_of ((CT.out _).mono (fun _ _ h => ⟨h.1, by rw [h.2]; exact Below.refl _ _⟩))
        have k1 := cell_regrown m1
        have k2 := cell_regrown c3
        have k3 := cell_regrown e1
        have k4 := cell_regrown e2
        have CSH := Lib.hid cS
        have CTH := Lib.hid cT
        clear cS cT m1 c3 e0 e1 e2 CS CT A1
        refine wp_region_quiet_below (by kernel_rfl) (by kernel_rfl) ?_
        repeat (go_big_quiet_step ((first | with_reducible exact CSH.out _ _ | with_reducible exact CTH.out _ _)))
        refine wpQuiet_nil ?_
        intro _ hw'
        obtain ⟨⟨dq, osq⟩, hw''⟩ := hw'
        subst hw''
        have BR5 := Lib.hid (BR.out.trans ((below_regrown wr dq osq).mono BR.out.size))
        clear k1 k2 k3 k4
        generalize Sort.grow (redrawn wr dq) osq = w5 at *
        go_wp2
        go_roundw
        case rel => exact ⟨k + 1, by omega, by go_num, by rw [FE.out], BR5⟩
        case measure => simp [RowKit.intOf]; omega
    · obtain rfl : k = N := by omega
      go_wp2
      go_ret
      refine ⟨?_, BA.out⟩
      rw [List.take_of_length_le (by rw [HUN.out]; exact Nat.le_refl _)]
      rfl
end Lg
end Go.Proofs.Ytehiclmkdpcplaa

namespace Go.Proofs.Ytehiclmkdpcplaa
open Go.RowKit

namespace Sy
/-- A stay's cells. -/
theorem rw_at {w : World} {p : Option Addr} {n : Nat} {S : List Sy} (h : Rw 3 scells w p n S) {k : Nat} {x : Sy} (hx : S[k]? = some x) :
    ∃ b o, p = some ⟨b, o, none⟩ ∧ w.cell? ⟨b, o + k * 3, none⟩ = some (.int .i64 x.zone) ∧ w.cell? ⟨b, o + k * 3 + 1, none⟩ = some (.int .i64 x.frm) ∧ w.cell? ⟨b, o + k * 3 + 2, none⟩ = some (.int .i64 x.to) := by
  have hk : k < S.length := (List.getElem?_eq_some_iff.1 hx).1
  obtain ⟨b, o, e, hc⟩ := h.2 (by rw [← h.1]; omega)
  exact ⟨b, o, e, hc k x hx 0 (by decide), hc k x hx 1 (by decide), hc k x hx 2 (by decide)⟩
/-- What stands ahead of the one that a loop is at is as it may be. -/
def Ahead (S : List Sy) (k : Nat) : Prop := ∀ i s, i < k → S[i]? = some s → 1 ≤ s.zone ∧ 0 ≤ s.frm ∧ (s.frm < s.to ∨ s.to = -1) ∧ ∀ t, 0 < i → S[i - 1]? = some t → s.frm = t.to
theorem ahead_zero (S : List Sy) : Ahead S 0 := fun i s h => by omega
theorem ahead_next {S : List Sy} {k : Nat} {x : Sy} (h : Ahead S k) (hx : S[k]? = some x) (h1 : 1 ≤ x.zone ∧ 0 ≤ x.frm ∧ (x.frm < x.to ∨ x.to = -1) ∧ ∀ t, 0 < k → S[k - 1]? = some t → x.frm = t.to) : Ahead S (k + 1) := fun i s hi hs => by
  by_cases hlt : i < k
  · exact h i s hlt hs
  · obtain rfl : i = k := by omega
    rw [hx] at hs
    rw [← Option.some.inj hs]
    exact h1
theorem ahead_all {S : List Sy} (h : Ahead S S.length) : rightB S = true := rightB_iff.2 fun i s hs => h i s (List.getElem?_eq_some_iff.1 hs).1 hs
set_option maxRecDepth 100000 in
set_option maxHeartbeats 8000000 in
theorem pright_any (p : Option Addr) (n c : Nat) (S : List Sy) (w : World) (h : Rw 3 scells w p n S) (hn : n ≤ 1000000) :
    Calls Try.prog 43 #[.slice p n c] w fun e w' => e = .returned (.bool (rightB S)) ∧ Below w.heap.size w w' := by
  have hn' : (n : Int) ≤ 1000000 := by omega
  have H := Lib.hid h
  have HN := Lib.hid h.1
  have B0 := Lib.hid (Below.refl w.heap.size w)
  clear h
  go_enter Try.func43, Try.ntmps43
  go_wp2_with fail
  go_loopw [7] (fun i wr => ∃ k : Nat, k ≤ n ∧ i = .int .i64 k ∧ Hid (Below w.heap.size w wr) ∧ Hid (Ahead S k)) (fun i _ => n - (RowKit.intOf i).toNat)
  case atStart => exact ⟨0, Nat.zero_le _, rfl, B0, Lib.hid (ahead_zero S)⟩
  case round =>
    clear B0
    obtain ⟨k, hk, rfl, HB, HA⟩ := hrel
    by_cases hlt : k < n
    · obtain ⟨x, hx⟩ : ∃ x, S[k]? = some x := ⟨_, List.getElem?_eq_getElem (by rw [HN.out]; exact hlt)⟩
      obtain ⟨b, o, rfl, e0, e1, e2⟩ := rw_at (H.out.keep scells_len HB.out) hx
      have hk3 : (k : Int) < (n : Int) := by omega
      have HX := Lib.hid hx
      have B1 := Lib.hid (HB.out.alloc (HB.out.size) (.cells (scells x).toArray 52))
      have hbad : ¬ (1 ≤ x.zone ∧ 0 ≤ x.frm ∧ (x.frm < x.to ∨ x.to = -1)) → Hid (rightB S = false) := fun h => Lib.hid (right_bad HX.out (fun hh => h ⟨hh.1, hh.2.1, hh.2.2.1⟩))
      have lb := World.block_lt_of_cell? wr _ e0
      by_cases hz : 1 ≤ x.zone
      · by_cases hf : 0 ≤ x.frm
        · by_cases ht : x.frm < x.to ∨ x.to = -1
          · rcases Nat.lt_or_ge 0 k with hk0 | hk0
            · obtain ⟨y, hy⟩ : ∃ y, S[k - 1]? = some y := ⟨_, List.getElem?_eq_getElem (by rw [HN.out]; omega)⟩
              obtain ⟨b', o', eq, _, _, f2⟩ := rw_at (H.out.keep scells_len HB.out) hy
              cases eq
              have gk : decide (0 < k) = true := by simp; omega
              have hw2 : IntKind.i64.wrap ((k : Int) - 1) = ((k - 1 : Nat) : Int) := by rw [show (k : Int) - 1 = ((k - 1 : Nat) : Int) by omega]; exact IntWalk.i64_in _ (by omega)
              have hj3 : ((k - 1 : Nat) : Int) < (n : Int) := by omega
              have HY := Lib.hid hy
              obtain ⟨j, hj⟩ : ∃ j, k - 1 = j := ⟨_, rfl⟩
              rw [hj] at hw2 hj3 f2
              have HJ := Lib.hid hj
              clear hj
              by_cases hq : x.frm = y.to
              · have A1 := Lib.hid (ahead_next HA.out HX.out ⟨hz, hf, ht, fun t _ h1 => by rw [HY.out] at h1; rw [← Option.some.inj h1]; exact hq⟩)
                have tq : (x.frm != y.to) = false := by simp [hq]
                clear hbad hx hy hq
                rcases ht with ht | ht
                · have tt : ¬ x.to ≤ x.frm := by omega
                  go_wp2_with fail
                  go_quiet (fail)
                  go_wp2
                  go_roundw
                  case rel => exact ⟨k + 1, by omega, by go_num, Lib.hid (below_drewN B1.out _), A1⟩
                  case measure => simp [RowKit.intOf]; omega
                · by_cases htt : x.frm < x.to
                  · have tt : ¬ x.to ≤ x.frm := by omega
                    clear ht
                    go_wp2_with fail
                    go_quiet (fail)
                    go_wp2
                    go_roundw
                    case rel => exact ⟨k + 1, by omega, by go_num, Lib.hid (below_drewN B1.out _), A1⟩
                    case measure => simp [RowKit.intOf]; omega
                  · have tt : x.to ≤ x.frm := by omega
                    have te : (x.to != -1) = false := by simp [ht]
                    clear ht htt
                    go_wp2_with fail
                    go_quiet (fail)
                    go_wp2
                    go_roundw
                    case rel => exact ⟨k + 1, by omega, by go_num, Lib.hid (below_drewN B1.out _), A1⟩
                    case measure => simp [RowKit.intOf]; omega
              · have HR := Lib.hid (right_bad HX.out (fun hh => hq (hh.2.2.2 y hk0 HY.out)))
                have tq : (x.frm != y.to) = true := by simp [hq]
                clear hbad hx hy hq
                rcases ht with ht | ht
                · have tt : ¬ x.to ≤ x.frm := by omega
                  go_wp2_with fail
                  go_quiet (fail)
                  go_wp2
                  go_ret
                  exact ⟨by rw [HR.out]; rfl, below_drewN B1.out _⟩
                · by_cases htt : x.frm < x.to
                  · have tt : ¬ x.to ≤ x.frm := by omega
                    clear ht
                    go_wp2_with fail
                    go_quiet (fail)
                    go_wp2
                    go_ret
                    exact ⟨by rw [HR.out]; rfl, below_drewN B1.out _⟩
                  · have tt : x.to ≤ x.frm := by omega
                    have te : (x.to != -1) = false := by simp [ht]
                    clear ht htt
                    go_wp2_with fail
                    go_quiet (fail)
                    go_wp2
                    go_ret
                    exact ⟨by rw [HR.out]; rfl, below_drewN B1.out _⟩
            · have A1 := Lib.hid (ahead_next HA.out HX.out ⟨hz, hf, ht, fun t h0 => by omega⟩)
              have gk : decide (0 < k) = false := by simp; omega
              have hkk := Lib.hid hk0
              clear hbad hx hk0
              rcases ht with ht | ht
              · have tt : ¬ x.to ≤ x.frm := by omega
                go_wp2_with fail
                go_quiet (fail)
                go_wp2
                go_roundw
                case rel => exact ⟨k + 1, by omega, by go_num, Lib.hid (below_drewN B1.out _), A1⟩
                case measure => simp [RowKit.intOf]; omega
              · by_cases htt : x.frm < x.to
                · have tt : ¬ x.to ≤ x.frm := by omega
                  clear ht
                  go_wp2_with fail
                  go_quiet (fail)
                  go_wp2
                  go_roundw
                  case rel => exact ⟨k + 1, by omega, by go_num, Lib.hid (below_drewN B1.out _), A1⟩
                  case measure => simp [RowKit.intOf]; omega
                · have tt : x.to ≤ x.frm := by omega
                  have te : (x.to != -1) = false := by simp [ht]
                  clear ht htt
                  go_wp2_with fail
                  go_quiet (fail)
                  go_wp2
                  go_roundw
                  case rel => exact ⟨k + 1, by omega, by go_num, Lib.hid (below_drewN B1.out _), A1⟩
                  case measure => simp [RowKit.intOf]; omega
          · have HR := hbad (fun hh => ht hh.2.2)
            have tt : x.to ≤ x.frm := by omega
            have te : (x.to != -1) = true := by simp; omega
            clear hbad hx ht
            go_wp2
            go_ret
            exact ⟨by rw [HR.out]; rfl, B1.out⟩
        · have hf' : x.frm < 0 := by omega
          have HR := hbad (fun hh => hf hh.2.1)
          clear hbad hx hf
          go_wp2
          go_ret
          exact ⟨by rw [HR.out]; rfl, B1.out⟩
      · have hz' : x.zone < 1 := by omega
        have HR := hbad (fun hh => hz hh.1)
        clear hbad hx hz
        go_wp2
        go_ret
        exact ⟨by rw [HR.out]; rfl, B1.out⟩
    · obtain rfl : k = n := by omega
      have HE := Lib.hid (ahead_all (by rw [HN.out]; exact HA.out))
      go_wp2
      go_ret
      exact ⟨by rw [HE.out]; rfl, HB.out⟩
end Sy
end Go.Proofs.Ytehiclmkdpcplaa

namespace Go.Proofs.Ytehiclmkdpcplaa
open Go.RowKit Go.Maps Se

namespace Lg
set_option maxRecDepth 100000 in
set_option maxHeartbeats 4000000 in
/-- A reading is put. -/
theorem pputL_any (J : Se.Face) (I : Ex.Face) (B h : Nat) (F : Nat → Prop) (st : List Zl) (zone : Int) (r : Rd) (w : World) (hp : DBl J I w B h F st) (hg : Good st 1000) (hz : I64 zone) :
    Calls Try.prog 8 #[.pointer (some ⟨h, 0, none⟩), .int .i64 zone, rval r] w fun e w' => e = .returned (.tuple #[.bool (putZ st zone r).1.1, .int .i64 ((putZ st zone r).1.2 : Nat)]) ∧ Left (DBl J I) w B h F (putZ st zone r).2 w' := by
  have B1 := Lib.hid (alloc_below w (.cells #[.int .i64 r.min, .int .i64 r.seq, .int .i64 r.ten] 37))
  have X1 := Lib.hid (Lies.new w 37 #[.int .i64 r.min, .int .i64 r.seq, .int .i64 r.ten])
  obtain ⟨w1, hw1⟩ : ∃ w1, w.alloc (.cells #[.int .i64 r.min, .int .i64 r.seq, .int .i64 r.ten] 37) = w1 := ⟨_, rfl⟩
  rw [hw1] at B1 X1
  obtain ⟨mo, L, hP, e, hF⟩ := hp
  have HP := Lib.hid (hP.keep B1.out)
  have HF := Lib.hid hF
  cases hat : atZ zone st with
  | none =>
    have K := Lib.hid (pfind_no zone w1 HP.out.blk HP.out.tab (in64_i hz) (no_zone (by rw [e]; exact hat)))
    have RL := Lib.hid (show Left (DBl J I) w B h F st w1 from left_keep ⟨mo, L, HP.out, e, hF⟩ B1.out)
    rw [put_none hat]
    obtain ⟨a, b, c⟩ := r
    unfold rval
    simp only at hw1 ⊢
    clear hP hF hg hat hz X1 e
    go_enter Try.func8, Try.ntmps8
    go_wp2_with fail
    refine K.out.mono ?_
    rintro e' w' ⟨rfl, rfl⟩
    clear hw1
    go_wp2
    go_ret2
    exact ⟨rfl, RL.out⟩
  | some i =>
    subst e
    obtain ⟨y, hy, hy2, hq, _⟩ := one_zone hat
    have g := hg y.z (List.mem_of_getElem? hy2)
    have K := Lib.hid (pfind_yes zone w1 HP.out.blk HP.out.tab (in64_i hz) hq)
    have CZ := Lib.hid (zput_any J I B y r w1 (HP.out.zones y (List.mem_of_getElem? hy)) g)
    have HY := Lib.hid hy
    rw [put_some hat hy2]
    have x0 : w1.cell? ⟨w.heap.size, 0, none⟩ = some (.int .i64 r.min) := X1.out.cell 0
    have x1 : w1.cell? ⟨w.heap.size, 1, none⟩ = some (.int .i64 r.seq) := X1.out.cell 1
    have x2 : w1.cell? ⟨w.heap.size, 2, none⟩ = some (.int .i64 r.ten) := X1.out.cell 2
    unfold ZPut at CZ
    generalize sortL (putR y.z.S r).2.2 = S' at *
    generalize (putR y.z.S r).2.1 = en at *
    generalize (putR y.z.S r).1 = ch at *
    obtain ⟨a, b, c⟩ := r
    unfold rval at CZ ⊢
    simp only at hw1 x0 x1 x2 CZ ⊢
    clear hP hF hg hat hz X1 g hy hy2 hq
    go_enter Try.func8, Try.ntmps8
    go_wp2_with fail
    refine K.out.mono ?_
    rintro e' w' ⟨rfl, rfl⟩
    clear hw1
    go_wp2_with fail
    refine CZ.out.mono ?_
    rintro e' w2 ⟨rfl, y', hz2⟩
    have RL := Lib.hid (left_from B1.out (left_one HP.out HF.out HY.out hz2 rfl))
    clear hz2 x0 x1 x2
    go_wp2
    go_ret2
    exact ⟨rfl, RL.out⟩
/-- A sum of a list of two that the call has laid itself. -/
theorem addTwo (x y : Int) (w : World) :
    Calls Try.prog 27 #[.slice (some ⟨w.heap.size, 0, none⟩) 2 2] (w.alloc (.cells #[.int .i64 x, .int .i64 y] 3)) fun e w' => e = .returned (.int .i64 (St.St.cap (St.St.fit x + St.St.fit y))) ∧ Below w.heap.size w w' :=
  (St.add_any w.heap.size 0 2 2 [x, y] _ (by simp) (by omega) (fun j hj => by
    match j, hj with
    | 0, _ => simp
    | 1, _ => simp)).mono fun e w' ⟨he, hw⟩ => by
      subst he; subst hw
      refine ⟨St.ret_int ?_, (Below.refl _ _).alloc (Nat.le_refl _) _⟩
      simp [St.St.sum]
/-- A stay more is added. -/
theorem step_sum {st : List Zl} {lim o : Int} {t : Sy.Sy} (h0 : 0 ≤ o) (h1 : o ≤ 4611686018427387904) : St.St.cap (St.St.fit o + St.St.fit (sumE st lim t)) = stepE st lim o t := by
  have key : St.St.cap (St.St.fit o + St.St.fit 0) = o := by
    unfold St.St.cap St.St.fit
    omega
  cases ha : atZ t.zone st with
  | none => rw [sum_none ha, step_none ha, key]
  | some i =>
    obtain ⟨x, hx, _⟩ := at_some ha
    rw [sum_some ha hx, step_some ha hx]
set_option maxRecDepth 100000 in
set_option maxHeartbeats 8000000 in
/-- The exposure of stays. -/
theorem pexpoL_any (J : Se.Face) (I : Ex.Face) (Y : Sy.Face) (B h : Nat) (F : Nat → Prop) (st : List Zl) (lim : Int) (p : Option Addr) (pn pc : Nat) (S : List Sy.Sy) (m : Int) (w : World) (hp : DBl J I w B h F st) (hg : Good st 1000) (hl : I64 lim) (hm : I64 m) (hr : Rw 3 Sy.scells w p pn S) (hpn : pn ≤ 100000) (hnc : pn ≤ pc) (hS : Sok S) :
    Calls Try.prog 10 #[.pointer (some ⟨h, 0, none⟩), .int .i64 lim, .slice p pn pc, .int .i64 m] w fun e w' => e = .returned (.int .i64 (expo st lim S m)) ∧ Left (DBl J I) w B h F st w' := by
  have hlt : h < w.heap.size := by
    obtain ⟨mo, L, hP, _, _⟩ := hp
    exact hP.blk.lt
  have B1 := Lib.hid (((Below.refl w.heap.size w).alloc (Nat.le_refl _) (.cells #[.pointer (some ⟨h, 0, none⟩)] 29)).alloc (by simp) (.cells #[.int .i64 lim] 3))
  have XA := Lib.hid ((Lies.new w 29 #[.pointer (some ⟨h, 0, none⟩)]).alloc (.cells #[.int .i64 lim] 3))
  have XB := Lib.hid (show Lies ((w.alloc (.cells #[.pointer (some ⟨h, 0, none⟩)] 29)).alloc (.cells #[.int .i64 lim] 3)) (w.heap.size + 1) 3 #[.int .i64 lim] by
    have := Lies.new (w.alloc (.cells #[.pointer (some ⟨h, 0, none⟩)] 29)) 3 #[.int .i64 lim]
    simpa using this)
  have CO := Lib.hid (pover_any (some ⟨h, 0, none⟩) lim w)
  obtain ⟨w1, hw1⟩ : ∃ w1, (w.alloc (.cells #[.pointer (some ⟨h, 0, none⟩)] 29)).alloc (.cells #[.int .i64 lim] 3) = w1 := ⟨_, rfl⟩
  rw [hw1] at B1 XA XB CO
  have CU := Lib.hid (Y.upto p pn pc S m w1 (hr.keep Sy.scells_len B1.out) (by omega) hnc)
  have HU := Lib.hid (uptoV_ok hS hm)
  have hUl := uptoV_len S m
  rw [hr.1] at hUl
  have HX : Hid (expo st lim S m = (Sy.uptoV S m).foldl (stepE st lim) 0) := Lib.hid rfl
  have HGo := Lib.hid hg
  have HL := Lib.hid hl
  have HD := Lib.hid hp
  have FW := Lib.hid (fun k hk => (dbl_foot hp (k := k) hk).2)
  rw [HX.out]
  generalize Sy.uptoV S m = U at *
  obtain ⟨N, hN⟩ : ∃ N, U.length = N := ⟨_, rfl⟩
  have HUN := Lib.hid hN
  rw [hN] at hUl
  have hNb : (N : Int) ≤ 100000 := by omega
  clear hp hg hr hS hN HX hm hl hlt hnc hw1
  go_enter Try.func10, Try.ntmps10
  go_wp2_with fail
  refine CO.out.mono ?_
  rintro e w' ⟨rfl, rfl⟩
  unfold teller
  go_wp2_with fail
  refine CU.out.mono ?_
  intro e w2 he
  obtain ⟨v, rfl, ho, hb2⟩ := he
  obtain ⟨uq, ud, rfl⟩ := own_slice ho
  have KO := Lib.hid ho
  have B2 := Lib.hid (B1.out.trans (hb2.mono B1.out.size))
  have S12 := Lib.hid hb2.size
  have XA2 := Lib.hid (XA.out.below hb2 XA.out.lt)
  have XB2 := Lib.hid (XB.out.below hb2 XB.out.lt)
  have S01 := Lib.hid (show w.heap.size + 1 < w'.heap.size from XB.out.lt)
  have D2 := Lib.hid (dbl_keep HD.out B2.out)
  rw [HUN.out] at KO ⊢
  clear ho hb2 CU CO XA XB B1
  go_wp2_with fail
  go_loopw [9, 12, 20] (fun o _ i wr => ∃ (k : Nat) (G : Nat → Prop), k ≤ N ∧ i = .int .i64 k ∧ o = .int .i64 ((U.take k).foldl (stepE st lim) 0) ∧ Hid (DBl J I wr B h G st) ∧ Hid (Turn F w2 wr) ∧ Hid (∀ k, G k → F k ∨ w2.heap.size ≤ k)) (fun _ _ i _ => N - (RowKit.intOf i).toNat)
  case atStart => exact ⟨0, F, Nat.zero_le _, rfl, rfl, D2, Lib.hid (Turn.refl _ _), Lib.hid (fun _ h => .inl h)⟩
  case round =>
    obtain ⟨k, G, hk, rfl, rfl, DR, TR, GR⟩ := hrel
    by_cases hlt : k < N
    · have hk3 : (k : Int) < (N : Int) := by omega
      obtain ⟨t, ht⟩ : ∃ t, U[k]? = some t := ⟨_, List.getElem?_eq_getElem (by rw [HUN.out]; exact hlt)⟩
      have OK := Lib.hid (own_turn KO.out TR.out (fun b hb hf => by
        have h1 := own_lt KO.out hb
        have h2 := FW.out b hf
        have h3 := S01.out
        omega))
      obtain ⟨b, o, rfl, e0, e1, e2⟩ := Sy.rw_at (own_rw Sy.scells_len OK.out HUN.out) ht
      have hu := HU.out t (List.mem_of_getElem? ht)
      have FN := Lib.hid (fold_next (l := st) (lim := lim) ht)
      have NN := expo_nn (l := st) (lim := lim) (U.take k) 0 (Int.le_refl _) (by decide)
      have SS := Lib.hid (step_sum (st := st) (lim := lim) (t := t) NN.1 NN.2)
      have RA := Lib.hid (alloc_below wr (.cells (Sy.scells t).toArray 52))
      have A4 := Lib.hid (((XA2.out.turn TR.out (fun hf => by have := FW.out _ hf; omega))).alloc (.cells (Sy.scells t).toArray 52))
      have B4 := Lib.hid (((XB2.out.turn TR.out (fun hf => by have := FW.out _ hf; omega))).alloc (.cells (Sy.scells t).toArray 52))
      have CT := Lib.hid (tell_any J I B h G st lim w.heap.size (w.heap.size + 1) t (wr.alloc (.cells (Sy.scells t).toArray 52)) (dbl_keep DR.out RA.out) HGo.out HL.out hu (A4.out.cell 0) (B4.out.cell 0) (fun hh => by
        have h1 := S12.out
        have h2 := S01.out
        rcases GR.out _ hh with h3 | h3
        · have := FW.out _ h3
          omega
        · omega))
      generalize (U.take k).foldl (stepE st lim) 0 = x at *
      unfold Summed at CT
      generalize sumE st lim t = sv at *
      clear hu ht OK A4 B4
      go_wp2_with fail
      refine CT.out.mono ?_
      rintro e w5 ⟨rfl, G5, hd5, ht5, hg5⟩
      have D5 := Lib.hid hd5
      have T5 := Lib.hid ((TR.out.alloc (.cells (Sy.scells t).toArray 52)).trans ht5 GR.out)
      have G5K := Lib.hid (show ∀ k, G5 k → F k ∨ w2.heap.size ≤ k from fun i hi => (hg5 i hi).elim (GR.out i) (fun h => .inr (by
        have h1 := RA.out.size
        have h2 := TR.out.size
        omega)))
      have ADD := Lib.hid (addTwo x sv w5)
      rw [SS.out] at ADD
      generalize stepE st lim x t = x2 at *
      clear hd5 ht5 hg5 e0 e1 e2 CT RA SS NN
      go_wp2_with fail
      refine ADD.out.mono ?_
      rintro e w6 ⟨rfl, hb6⟩
      have D6 := Lib.hid (dbl_keep D5.out hb6)
      have T6 := Lib.hid (T5.out.trans (Turn.of_below (S := F) hb6) (fun _ hi => .inl hi))
      clear hb6 ADD
      go_wp2
      go_roundw
      case rel => exact ⟨k + 1, G5, by omega, by go_num, by rw [FN.out], D6, T6, G5K⟩
      case measure => simp [RowKit.intOf]; omega
    · obtain rfl : k = N := by omega
      have RL := Lib.hid (show Left (DBl J I) w B h F st wr from ⟨G, DR.out, (Turn.of_below B2.out).trans TR.out (fun _ hi => .inl hi), fun i hi => (GR.out i hi).imp id (fun h => by have := B2.out.size; omega)⟩)
      go_wp2
      go_ret
      refine ⟨?_, RL.out⟩
      rw [List.take_of_length_le (by rw [HUN.out]; exact Nat.le_refl _)]
      rfl
set_option maxRecDepth 100000 in
set_option maxHeartbeats 8000000 in
/-- No ledger: stays have no exposure. -/
theorem nilL_expo (Y : Sy.Face) (lim : Int) (p : Option Addr) (pn pc : Nat) (S : List Sy.Sy) (m : Int) (w : World) (hr : Rw 3 Sy.scells w p pn S) (hpn : pn ≤ 100000) (hnc : pn ≤ pc) :
    Calls Try.prog 10 #[.pointer none, .int .i64 lim, .slice p pn pc, .int .i64 m] w fun e w' => e = .returned (.int .i64 0) ∧ Below w.heap.size w w' := by
  have B1 := Lib.hid (((Below.refl w.heap.size w).alloc (Nat.le_refl _) (.cells #[.pointer none] 29)).alloc (by simp) (.cells #[.int .i64 lim] 3))
  have XA := Lib.hid ((Lies.new w 29 #[.pointer none]).alloc (.cells #[.int .i64 lim] 3))
  have CO := Lib.hid (pover_any none lim w)
  obtain ⟨w1, hw1⟩ : ∃ w1, (w.alloc (.cells #[.pointer none] 29)).alloc (.cells #[.int .i64 lim] 3) = w1 := ⟨_, rfl⟩
  rw [hw1] at B1 XA CO
  have CU := Lib.hid (Y.upto p pn pc S m w1 (hr.keep Sy.scells_len B1.out) (by omega) hnc)
  have hUl := uptoV_len S m
  rw [hr.1] at hUl
  generalize Sy.uptoV S m = U at *
  obtain ⟨N, hN⟩ : ∃ N, U.length = N := ⟨_, rfl⟩
  have HUN := Lib.hid hN
  rw [hN] at hUl
  have hNb : (N : Int) ≤ 100000 := by omega
  clear hr hN hnc hw1
  go_enter Try.func10, Try.ntmps10
  go_wp2_with fail
  refine CO.out.mono ?_
  rintro e w' ⟨rfl, rfl⟩
  unfold teller
  go_wp2_with fail
  refine CU.out.mono ?_
  intro e w2 he
  obtain ⟨v, rfl, ho, hb2⟩ := he
  obtain ⟨uq, ud, rfl⟩ := own_slice ho
  have KO := Lib.hid ho
  have B2 := Lib.hid (B1.out.trans (hb2.mono B1.out.size))
  have XA2 := Lib.hid (XA.out.below hb2 XA.out.lt)
  rw [HUN.out] at KO ⊢
  clear ho hb2 CU CO XA B1
  go_wp2_with fail
  go_loopw [9, 12, 20] (fun o _ i wr => ∃ k : Nat, k ≤ N ∧ i = .int .i64 k ∧ o = .int .i64 0 ∧ Hid (Below w2.heap.size w2 wr)) (fun _ _ i _ => N - (RowKit.intOf i).toNat)
  case atStart => exact ⟨0, Nat.zero_le _, rfl, rfl, Lib.hid (Below.refl _ _)⟩
  case round =>
    obtain ⟨k, hk, rfl, rfl, BR⟩ := hrel
    by_cases hlt : k < N
    · have hk3 : (k : Int) < (N : Int) := by omega
      obtain ⟨t, ht⟩ : ∃ t, U[k]? = some t := ⟨_, List.getElem?_eq_getElem (by rw [HUN.out]; exact hlt)⟩
      have OK := Lib.hid (own_turn KO.out (Turn.of_below (S := fun _ => False) BR.out) (fun b hb hf => hf))
      obtain ⟨b, o, rfl, e0, e1, e2⟩ := Sy.rw_at (own_rw Sy.scells_len OK.out HUN.out) ht
      have A3 := Lib.hid (XA2.out.below BR.out XA2.out.lt)
      have A4 := Lib.hid (A3.out.alloc (.cells (Sy.scells t).toArray 52))
      have RA := Lib.hid (BR.out.alloc BR.out.size (.cells (Sy.scells t).toArray 52))
      have CT := Lib.hid (tell_nil w.heap.size (w.heap.size + 1) t (wr.alloc (.cells (Sy.scells t).toArray 52)) (A4.out.cell 0))
      clear ht OK A4 A3
      go_wp2_with fail
      refine CT.out.mono ?_
      rintro e w5 ⟨rfl, hb5⟩
      have B5 := Lib.hid (RA.out.trans (hb5.mono RA.out.size))
      have ADD := Lib.hid (addTwo 0 0 w5)
      have Z0 : St.St.cap (St.St.fit 0 + St.St.fit 0) = 0 := by decide
      rw [Z0] at ADD
      clear hb5 e0 e1 e2 CT RA Z0
      go_wp2_with fail
      refine ADD.out.mono ?_
      rintro e w6 ⟨rfl, hb6⟩
      have B6 := Lib.hid (B5.out.trans (hb6.mono B5.out.size))
      clear hb6 ADD
      go_wp2
      go_roundw
      case rel => exact ⟨k + 1, by omega, by go_num, rfl, B6⟩
      case measure => simp [RowKit.intOf]; omega
    · obtain rfl : k = N := by omega
      go_wp2
      go_ret
      exact ⟨rfl, B2.out.trans (BR.out.mono B2.out.size)⟩
end Lg
end Go.Proofs.Ytehiclmkdpcplaa

namespace Go.Proofs.Ytehiclmkdpcplaa
open Go.RowKit Go.Maps Se

namespace Lg
/-- 'm[k] = v', where it comes up in a region that draws its order. -/
theorem op_update {H : Type} {P : Program} (w : World) {ops : Array Oper} {o : Oper} {a : Act} {Q : Exit → Act → World → Prop} {K' : Act → World → Prop} {E : Prop}
    (hg : o.guard = none) (m x v : Operand) (t : TypeId) (hop : o.op = Op.mapUpdate t m x v)
    (k e : TypeId) (K : Keyed P k) (ht : P.underlying t = some (.map k e)) (R : Value → Option (DataW H × List MemPlace)) (b n : Nat) (D : DataW H)
    (hm : a.eval m = .map (some b)) (hown : w.ownsMap P k R b n D) (hn : n < maxLen) (key val : Value) (kl : Lit) (hx : a.eval x = key) (hv : a.eval v = val) (hkey : keyOf P k key = some kl)
    (d : DataW H) (ps : List MemPlace) (hval : R val = some (d, ps))
    (hK : ∀ w', w'.ownsMap P k R b (n + 1) (D.put kl d) → w.grownBy w' (some b) → K' (a.put o.dst undef) w') : if Region.wanted o (yielded ops a.tmps) = true then Oper.wp P o a w K' Q else E := by
  have hw : Region.wanted o (yielded ops a.tmps) = true := by simp [Region.wanted, hg]
  rw [if_pos hw]
  obtain ⟨w', hrun, r1, r2⟩ := hown.update K ht hn hkey hval
  unfold Oper.wp
  simp [execOp, hop, hm, hx, hv, hrun, Result.andThen]
  exact hK _ r1 r2
/-- A zone more. -/
theorem plg_app {J : Se.Face} {I : Ex.Face} {w w9 : World} {B h b n : Nat} {F : Nat → Prop} {mo : Option Nat} {L : List Pz} {D : DataW Unit} {y : Pz} (hp : PLg J I w B h mo L) (hF : ∀ k, F k ↔ LF h mo L k) (hT : Turn (fun k => k = h ∨ mo = some k) w w9) (hb : mo = some b ∨ w.heap.size ≤ b)
    (hl : Lies w9 h 79 #[.map (some b)]) (hy : PZ J I w9 B y) (hn : atZ y.z.id (L.map Pz.z) = none) (hyF : ∀ k, ZF y k → w.heap.size ≤ k ∧ k ≠ b) (hM : Mq D (L.map pkq)) (hD : Maps.Tidy D)
    (ho : w9.ownsMap Try.prog 3 (Ms.rdF Qf) b n (D.put (.int .i64 y.z.id) (qdat (some y.q)))) : Left (DBl J I) w B h F (L.map Pz.z ++ [y.z]) w9 := by
  have hlt := hp.blk.lt
  have hB : B ≤ b := by
    rcases hb with e | e
    · exact (tq_lt hp.tab e).1
    · have := hp.base
      omega
  have hold : ∀ x ∈ L, ∀ k, ZF x k → k ≠ h ∧ mo ≠ some k ∧ k < w.heap.size := fun x hx k hk => ⟨(hp.apart x hx k hk).1, (hp.apart x hx k hk).2, ((hp.zones x hx).foot hk).2⟩
  have hids : ∀ x ∈ L, x.z.id ≠ y.z.id := fun x hx => at_none.1 hn x.z (List.mem_map.2 ⟨x, hx, rfl⟩)
  have hM' := mq_app hM hD (x := pkq y) (fun z hz => by
    obtain ⟨x, hx, rfl⟩ := List.mem_map.1 hz
    exact hids x hx)
  refine ⟨LF h (some b) (L ++ [y]), ⟨some b, L ++ [y], ⟨hp.base, hl, .inr ⟨b, D.put (.int .i64 y.z.id) (qdat (some y.q)), rfl, hB, ?_, ?_⟩, fun x hx => ?_, ?_, fun x hx k hk => ?_, ?_⟩, by rw [List.map_append]; rfl, fun k => Iff.rfl⟩, hT.mono (fun k _ hk => (hF k).2 (hk.imp id .inl)), fun k hk => ?_⟩
  · have h1 := Ms.own_tight ho
    rw [show Maps.size (D.put (.int .i64 y.z.id) (qdat (some y.q))) = ((L.map pkq) ++ [pkq y]).length from hM'.size] at h1
    rw [List.map_append]
    exact h1
  · rw [List.map_append]
    exact hM'
  · rcases List.mem_append.1 hx with hx | hx
    · exact (hp.zones x hx).turn hT (fun k hk hh => hh.elim (hold x hx k hk).1 (hold x hx k hk).2.1)
    · rw [List.mem_singleton.1 hx]
      exact hy
  · rw [List.map_append]
    exact sep_app hp.sep (fun k hk => (hyF k hk).1) (fun g hg k hk => by
      obtain ⟨x, hx, rfl⟩ := List.mem_map.1 hg
      exact (hold x hx k hk).2.2)
  · rcases List.mem_append.1 hx with hx | hx
    · refine ⟨(hold x hx k hk).1, fun e => ?_⟩
      have e' := Option.some.inj e
      subst e'
      rcases hb with e | e
      · exact (hold x hx b hk).2.1 e
      · have := (hold x hx b hk).2.2
        omega
    · rw [List.mem_singleton.1 hx] at hk
      have := hyF k hk
      exact ⟨by omega, fun e => this.2 (Option.some.inj e).symm⟩
  · exact List.pairwise_append.2 ⟨hp.ids, List.pairwise_singleton _ _, fun a ha c hc => by
      rw [List.mem_singleton.1 hc]
      exact hids a ha⟩
  · rcases hk with hk | hk | ⟨x, hx, hk⟩
    · exact .inl ((hF k).2 (.inl hk))
    · have e := Option.some.inj hk
      subst e
      exact hb.imp (fun e => (hF b).2 (.inr (.inl e))) id
    · rcases List.mem_append.1 hx with hx | hx
      · exact .inl ((hF k).2 (.inr (.inr ⟨x, hx, hk⟩)))
      · rw [List.mem_singleton.1 hx] at hk
        exact .inr (hyF k hk).1
/-- Behind the region that makes it. -/
theorem padd_end {J : Se.Face} {I : Ex.Face} {w w3 w9 : World} {B h b n n9 sa s1 : Nat} {F sF : Nat → Prop} {mo : Option Nat} {L : List Pz} {D : DataW Unit} {zi wo ga : Int} (hp : PLg J I w B h mo L) (hF : ∀ k, F k ↔ LF h mo L k) (hT : Turn (fun k => k = h ∨ mo = some k) w w3) (hb : mo = some b ∨ w.heap.size ≤ b)
    (hl : Lies w3 h 79 #[.map (some b)]) (ho : w3.ownsMap Try.prog 3 (Ms.rdF Qf) b n D) (hM : Mq D (L.map pkq)) (hn : atZ zi (L.map Pz.z) = none) (hS : J.PS w3 s1 sa sF wo ga []) (hs : w.heap.size ≤ s1) (hsb : ∀ k, sF k → k ≠ b)
    (hg : ((w3.alloc (.map #[] 0)).alloc (.cells #[.int .i64 wo, .int .i64 ga, .pointer (some ⟨sa, 0, none⟩), .map (some w3.heap.size)] 72)).grownBy w9 (some b))
    (ho9 : w9.ownsMap Try.prog 3 (Ms.rdF Qf) b n9 (D.put (.int .i64 zi) (qdat (some (w3.heap.size + 1))))) : Left (DBl J I) w B h F (L.map Pz.z ++ [⟨zi, wo, ga, []⟩]) w9 := by
  have hbl := ho.lt
  have hlt := hp.blk.lt
  have hBh := hp.base
  have hs3 := hT.size
  have hbh : b ≠ h := fun e => by
    subst e
    obtain ⟨es, clock, h1, _⟩ := ho
    have e2 := Option.some.inj (Eq.trans (Eq.symm h1) hl)
    cases e2
  have B4 : Below w3.heap.size w3 (w3.alloc (.map #[] 0)) := alloc_below w3 _
  have B5 := B4.alloc B4.size (.cells #[.int .i64 wo, .int .i64 ga, .pointer (some ⟨sa, 0, none⟩), .map (some w3.heap.size)] 72)
  have LQ := Lies.new (w3.alloc (.map #[] 0)) 72 #[.int .i64 wo, .int .i64 ga, .pointer (some ⟨sa, 0, none⟩), .map (some w3.heap.size)]
  have O4 := World.ownsMap_made (H := Unit) w3 Try.prog 3 (Ms.rdF Qf)
  have B45 := alloc_below (w3.alloc (.map #[] 0)) (.cells #[.int .i64 wo, .int .i64 ga, .pointer (some ⟨sa, 0, none⟩), .map (some w3.heap.size)] 72)
  have hz4 : (w3.alloc (.map #[] 0)).heap.size = w3.heap.size + 1 := by simp
  rw [hz4] at LQ
  generalize w3.alloc (.map #[] 0) = w4 at *
  generalize w4.alloc (.cells #[.int .i64 wo, .int .i64 ga, .pointer (some ⟨sa, 0, none⟩), .map (some w3.heap.size)] 72) = w5 at *
  have O5 := Ms.own_like O4 (B45.block w3.heap.size (by omega))
  have T5 : Turn (fun k => k = h ∨ mo = some k) w w5 := hT.trans (Turn.of_below (S := fun k => k = h ∨ mo = some k) B5) (fun _ hi => .inl hi)
  have T9 := T5.grown hg (fun k hk => by
    have e := Option.some.inj hk
    subst e
    exact hb.imp .inr id)
  have TB : Turn (fun k => k = b) w5 w9 := (Turn.refl _ w5).grown hg (fun k hk => .inl (Option.some.inj hk).symm)
  have O9 := Ms.own_like O5 (TB.block w3.heap.size (by have := LQ.lt; omega) (by omega))
  have L9 := (hl.below B5 hl.lt).turn TB (fun e => hbh e.symm)
  have Q9 := LQ.turn TB (by omega)
  have hFs : ∀ k, sF k → s1 ≤ k ∧ k < w3.heap.size := fun k hk => J.foot hS hk
  have S9 := J.turn (J.keep hS B5) TB hsb
  have hz : PZ J I w9 B ⟨⟨zi, wo, ga, []⟩, w3.heap.size + 1, sa, s1, sF, w3.heap.size, []⟩ :=
    ⟨⟨by show B ≤ w3.heap.size + 1; omega, by show B ≤ s1; omega⟩, Q9, S9, .inr ⟨w3.heap.size, .map [], rfl, by omega, O9, mq_nil⟩, XS.nil, fun k hk => by
      have := hFs k hk
      exact ⟨by show k ≠ w3.heap.size + 1; omega, by show k ≠ w3.heap.size; omega⟩, fun x hx => by cases hx⟩
  exact plg_app hp hF T9 hb L9 hz hn (fun k hk => by
    rcases hk with hk | hk | hk | ⟨x, hx, _⟩
    · have : k = w3.heap.size + 1 := hk
      omega
    · have : k = w3.heap.size := hk
      omega
    · have := hFs k hk
      exact ⟨by omega, hsb k hk⟩
    · cases hx) hM (ho.tidy Ms.lawI) ho9
set_option maxRecDepth 100000 in
set_option maxHeartbeats 4000000 in
/-- Its number is none. -/
theorem padd_low (h : Nat) (z : Ms.Zn) (w : World) (hz : z.id < 1) :
    Calls Try.prog 17 #[.pointer (some ⟨h, 0, none⟩), Ms.zval z] w fun e w' => e = .returned (.int .i64 1) ∧ Below w.heap.size w w' := by
  obtain ⟨a, b, c, d, e, f⟩ := z
  simp only [Ms.zval] at hz ⊢
  have B0 := Lib.hid (alloc_below w (.cells #[.int .i64 a, .int .i64 b, .int .i64 c, .int .i64 d, .bool e, .int .i64 f] 48))
  have t0 : decide (a < 1) = true := by simp; omega
  clear hz
  go_enter Try.func17, Try.ntmps17
  go_wp2
  go_ret
  exact ⟨rfl, B0.out⟩
set_option maxRecDepth 100000 in
set_option maxHeartbeats 4000000 in
/-- There can't be such a series. -/
theorem padd_bad (J : Se.Face) (h : Nat) (z : Ms.Zn) (w : World) (hz : 1 ≤ z.id) (hm : mayB z.worst z.gap = false) :
    Calls Try.prog 17 #[.pointer (some ⟨h, 0, none⟩), Ms.zval z] w fun e w' => e = .returned (.int .i64 1) ∧ Below w.heap.size w w' := by
  have CN := Lib.hid (fun W => J.new_no z.worst z.gap W hm)
  obtain ⟨a, b, c, d, e, f⟩ := z
  simp only [Ms.zval] at hz CN ⊢
  have B0 := Lib.hid (alloc_below w (.cells #[.int .i64 a, .int .i64 b, .int .i64 c, .int .i64 d, .bool e, .int .i64 f] 48))
  have t0 : decide (a < 1) = false := by simp; omega
  clear hm
  go_enter Try.func17, Try.ntmps17
  go_wp2_with fail
  refine (CN.out _).mono ?_
  rintro e w2 ⟨rfl, hb⟩
  have B2 := Lib.hid (B0.out.trans (hb.mono B0.out.size))
  clear hb
  go_wp2
  go_ret
  exact ⟨rfl, B2.out⟩
set_option maxRecDepth 100000 in
set_option maxHeartbeats 4000000 in
/-- One is there. -/
theorem padd_twice (J : Se.Face) (I : Ex.Face) (B h : Nat) (mo : Option Nat) (L : List Pz) (q : Nat) (z : Ms.Zn) (w : World) (hp : PLg J I w B h mo L) (hz : 1 ≤ z.id) (hI : I64 z.id) (hm : mayB z.worst z.gap = true) (hq : fq z.id (L.map pkq) = some q) :
    Calls Try.prog 17 #[.pointer (some ⟨h, 0, none⟩), Ms.zval z] w fun e w' => e = .returned (.int .i64 6) ∧ Below w.heap.size w w' := by
  have CN := Lib.hid (fun W => J.new_yes z.worst z.gap W hm)
  have K := Lib.hid (fun W (hW : Below w.heap.size w W) => tlook_q Try.underlying77 zeroPz hp.tab (in64_i hI) W hW)
  have HL := Lib.hid hp.blk
  rw [hq] at K
  simp only [qval, Option.isSome_some] at K
  obtain ⟨a, b, c, d, e, f⟩ := z
  simp only [Ms.zval] at hz CN K ⊢
  have B0 := Lib.hid (alloc_below w (.cells #[.int .i64 a, .int .i64 b, .int .i64 c, .int .i64 d, .bool e, .int .i64 f] 48))
  have X0 := Lib.hid (Lies.new w 48 #[.int .i64 a, .int .i64 b, .int .i64 c, .int .i64 d, .bool e, .int .i64 f])
  have t0 : decide (a < 1) = false := by simp; omega
  clear hm hp hI hq
  go_enter Try.func17, Try.ntmps17
  go_wp2_with fail
  refine (CN.out _).mono ?_
  rintro e w2 ⟨sa, sF, rfl, _, hb⟩
  have B2 := Lib.hid (B0.out.trans (hb.mono B0.out.size))
  have X2 := Lib.hid (X0.out.below hb X0.out.lt)
  have l0 : w2.cell? ⟨h, 0, none⟩ = some (.map mo) := (HL.out.below B2.out HL.out.lt).cell 0
  have x0 : w2.cell? ⟨w.heap.size, 0, none⟩ = some (.int .i64 a) := X2.out.cell 0
  have k0 := fun n => K.out (w2.drewN n) (below_drewN B2.out n)
  clear hb CN
  go_wp2_with fail
  go_quiet (fail)
  clear k0
  go_wp2
  go_ret
  exact ⟨rfl, below_drewN B2.out _⟩
set_option maxRecDepth 100000 in
set_option maxHeartbeats 8000000 in
/-- There are others. -/
theorem padd_more (J : Se.Face) (I : Ex.Face) (B h : Nat) (F : Nat → Prop) (bm : Nat) (L : List Pz) (z : Ms.Zn) (w : World) (hp : PLg J I w B h (some bm) L) (hF : ∀ k, F k ↔ LF h (some bm) L k) (hL : L.length ≤ 1000) (hz : 1 ≤ z.id) (hI : I64 z.id) (hm : mayB z.worst z.gap = true) (hn : atZ z.id (L.map Pz.z) = none) :
    Calls Try.prog 17 #[.pointer (some ⟨h, 0, none⟩), Ms.zval z] w fun e w' => e = .returned (.int .i64 0) ∧ Left (DBl J I) w B h F (L.map Pz.z ++ [⟨z.id, z.worst, z.gap, []⟩]) w' := by
  have CN := Lib.hid (fun W => J.new_yes z.worst z.gap W hm)
  have K := Lib.hid (fun W (hW : Below w.heap.size w W) => tlook_q Try.underlying77 zeroPz hp.tab (in64_i hI) W hW)
  have HL := Lib.hid hp.blk
  have HP := Lib.hid hp
  have HF := Lib.hid hF
  have HN := Lib.hid hn
  have HKEY := Lib.hid (Ms.key_of (in64_i hI))
  have HLe := Lib.hid (show L.length < maxLen by unfold maxLen; omega)
  rw [no_zone hn] at K
  simp only [qval, Option.isSome_none] at K
  obtain ⟨D, hown, hMq⟩ : ∃ D, w.ownsMap Try.prog 3 (Ms.rdF Qf) bm (L.map pkq).length D ∧ Mq D (L.map pkq) := by
    rcases HP.out.tab with ⟨h1, _⟩ | ⟨b', D, h1, _, h2, h3⟩
    · cases h1
    · obtain rfl := Option.some.inj h1
      exact ⟨D, h2, h3⟩
  have HOW := Lib.hid hown
  have HMq := Lib.hid hMq
  clear hown hMq
  rw [List.length_map] at HOW
  obtain ⟨a, b, c, d, e, f⟩ := z
  simp only [Ms.zval] at hz CN K HN HKEY ⊢
  have B0 := Lib.hid (alloc_below w (.cells #[.int .i64 a, .int .i64 b, .int .i64 c, .int .i64 d, .bool e, .int .i64 f] 48))
  have X0 := Lib.hid (Lies.new w 48 #[.int .i64 a, .int .i64 b, .int .i64 c, .int .i64 d, .bool e, .int .i64 f])
  have S0 := Lib.hid (show (w.alloc (.cells #[.int .i64 a, .int .i64 b, .int .i64 c, .int .i64 d, .bool e, .int .i64 f] 48)).heap.size = w.heap.size + 1 by simp)
  have t0 : decide (a < 1) = false := by simp; omega
  have EN := fun W => run_eql_map_nil (P := Try.prog) W 77 3 58 (some bm) Try.underlying77
  have hmm := @run_makeMap Try.prog
  clear hm hp hI hn hF hL
  go_enter Try.func17, Try.ntmps17
  go_wp2_with fail
  refine (CN.out _).mono ?_
  rintro e w2 ⟨sa, sF, rfl, hS, hb⟩
  have B2 := Lib.hid (B0.out.trans (hb.mono B0.out.size))
  have X2 := Lib.hid (X0.out.below hb X0.out.lt)
  rw [S0.out] at hS
  have S2 := Lib.hid hS
  have l0 : w2.cell? ⟨h, 0, none⟩ = some (.map (some bm)) := (HL.out.below B2.out HL.out.lt).cell 0
  have x0 : w2.cell? ⟨w.heap.size, 0, none⟩ = some (.int .i64 a) := X2.out.cell 0
  have k0 := fun n => K.out (w2.drewN n) (below_drewN B2.out n)
  clear hb CN hS X0 B0 S0
  go_wp2_with fail
  go_quiet (fail)
  clear k0 l0 x0 K
  rename_i nq
  have S3 := Lib.hid (J.turn S2.out (T := fun _ => False) ((Turn.refl _ w2).drewN nq) (fun _ _ hf => hf))
  have B3 := Lib.hid (below_drewN B2.out nq)
  have X3 := Lib.hid (X2.out.turn (S := fun _ => False) ((Turn.refl _ w2).drewN nq) (fun hf => hf))
  generalize w2.drewN nq = w3 at *
  clear B2 X2 S2
  have L3 := Lib.hid (HL.out.below B3.out HL.out.lt)
  have l0 : w3.cell? ⟨h, 0, none⟩ = some (.map (some bm)) := L3.out.cell 0
  go_wp2_with fail
  clear l0 EN
  have OW3 := Lib.hid (show w3.ownsMap Try.prog 3 (Ms.rdF Qf) bm L.length D from Ms.own_like HOW.out (B3.out.block bm HOW.out.lt))
  have T3 := Lib.hid (Turn.of_below (S := fun k => k = h ∨ some bm = some k) B3.out)
  have HBM := Lib.hid (show some bm = some bm ∨ w.heap.size ≤ bm from .inl rfl)
  have HSB := Lib.hid (show ∀ k, sF k → k ≠ bm from fun k hk e => by have h1 := (J.foot S3.out hk).1; have h2 := HOW.out.lt; omega)
  have d0 : w3.drew.cell? ⟨h, 0, none⟩ = some (.map (some bm)) := L3.out.cell 0
  have d1 : w3.drew.cell? ⟨w.heap.size, 0, none⟩ = some (.int .i64 a) := X3.out.cell 0
  have d2 : w3.drew.cell? ⟨w.heap.size, 1, none⟩ = some (.int .i64 b) := X3.out.cell 1
  have d3 : w3.drew.cell? ⟨w.heap.size, 2, none⟩ = some (.int .i64 c) := X3.out.cell 2
  refine region_T 14 (fun w' => w'.cell? ⟨h, 0, none⟩ = some (.map (some bm)) ∧ w'.cell? ⟨w.heap.size, 0, none⟩ = some (.int .i64 a) ∧ w'.cell? ⟨w.heap.size, 1, none⟩ = some (.int .i64 b) ∧ w'.cell? ⟨w.heap.size, 2, none⟩ = some (.int .i64 c)) (by kernel_rfl) ⟨d0, d1, d2, d3⟩ (fun hS => ?_)
  refine takeL (i := 0) (v := ?_) rfl (by kernel_rfl) (by kernel_rfl) (by kernel_rfl) (by kernel_rfl) (by kernel_rfl) (fun _ _ _ h => h) (Or.inl ⟨by rfl, ?_⟩) (by assumption) ?_
  rotate_left
  · (intro w' hSw; (try dsimp only at hSw); go_simp; with_reducible rfl)
  try simp only [Act.put, List.setIfInBounds_toArray, List.set_cons_zero, List.set_cons_succ]
  refine takeL (i := 1) (v := ?_) rfl (by kernel_rfl) (by kernel_rfl) (by kernel_rfl) (by kernel_rfl) (by kernel_rfl) (fun _ _ _ h => h) (Or.inl ⟨by rfl, ?_⟩) (by assumption) ?_
  rotate_left
  · (intro w' hSw; (try dsimp only at hSw); go_simp; with_reducible rfl)
  try simp only [Act.put, List.setIfInBounds_toArray, List.set_cons_zero, List.set_cons_succ]
  refine takeL (i := 2) (v := ?_) rfl (by kernel_rfl) (by kernel_rfl) (by kernel_rfl) (by kernel_rfl) (by kernel_rfl) (fun _ _ _ h => h) (Or.inl ⟨by rfl, ?_⟩) (by assumption) ?_
  rotate_left
  · (intro w' hSw; (try dsimp only at hSw); go_simp; with_reducible rfl)
  try simp only [Act.put, List.setIfInBounds_toArray, List.set_cons_zero, List.set_cons_succ]
  refine takeL (i := 3) (v := ?_) rfl (by kernel_rfl) (by kernel_rfl) (by kernel_rfl) (by kernel_rfl) (by kernel_rfl) (fun _ _ _ h => h) (Or.inl ⟨by rfl, ?_⟩) (by assumption) ?_
  rotate_left
  · (intro w' hSw; (try dsimp only at hSw); go_simp; with_reducible rfl)
  try simp only [Act.put, List.setIfInBounds_toArray, List.set_cons_zero, List.set_cons_succ]
  refine takeL (i := 4) (v := ?_) rfl (by kernel_rfl) (by kernel_rfl) (by kernel_rfl) (by kernel_rfl) (by kernel_rfl) (fun _ _ _ h => h) (Or.inl ⟨by rfl, ?_⟩) (by assumption) ?_
  rotate_left
  · (intro w' hSw; (try dsimp only at hSw); go_simp; with_reducible rfl)
  try simp only [Act.put, List.setIfInBounds_toArray, List.set_cons_zero, List.set_cons_succ]
  refine takeL (i := 5) (v := ?_) rfl (by kernel_rfl) (by kernel_rfl) (by kernel_rfl) (by kernel_rfl) (by kernel_rfl) (fun _ _ _ h => h) (Or.inl ⟨by rfl, ?_⟩) (by assumption) ?_
  rotate_left
  · (intro w' hSw; (try dsimp only at hSw); go_simp; with_reducible rfl)
  try simp only [Act.put, List.setIfInBounds_toArray, List.set_cons_zero, List.set_cons_succ]
  refine takeL (i := 6) (v := ?_) rfl (by kernel_rfl) (by kernel_rfl) (by kernel_rfl) (by kernel_rfl) (by kernel_rfl) (fun _ _ _ h => h) (Or.inl ⟨by rfl, ?_⟩) (by assumption) ?_
  rotate_left
  · (intro w' hSw; (try dsimp only at hSw); go_simp; with_reducible rfl)
  try simp only [Act.put, List.setIfInBounds_toArray, List.set_cons_zero, List.set_cons_succ]
  refine takeL (i := 7) (v := ?_) rfl (by kernel_rfl) (by kernel_rfl) (by kernel_rfl) (by kernel_rfl) (by kernel_rfl) (fun _ _ _ h => h) (Or.inl ⟨by rfl, ?_⟩) (by assumption) ?_
  rotate_left
  · (intro w' hSw; (try dsimp only at hSw); go_simp; with_reducible rfl)
  try simp only [Act.put, List.setIfInBounds_toArray, List.set_cons_zero, List.set_cons_succ]
  refine takeL (i := 8) (v := ?_) rfl (by kernel_rfl) (by kernel_rfl) (by kernel_rfl) (by kernel_rfl) (by kernel_rfl) (fun _ _ _ h => h) (Or.inl ⟨by rfl, ?_⟩) (by assumption) ?_
  rotate_left
  · (intro w' hSw; (try dsimp only at hSw); go_simp; with_reducible rfl)
  try simp only [Act.put, List.setIfInBounds_toArray, List.set_cons_zero, List.set_cons_succ]
  refine takeL (i := 9) (v := ?_) rfl (by kernel_rfl) (by kernel_rfl) (by kernel_rfl) (by kernel_rfl) (by kernel_rfl) (fun _ _ _ h => h) (Or.inl ⟨by rfl, ?_⟩) (by assumption) ?_
  rotate_left
  · (intro w' hSw; (try dsimp only at hSw); go_simp; with_reducible rfl)
  try simp only [Act.put, List.setIfInBounds_toArray, List.set_cons_zero, List.set_cons_succ]
  refine takeL (i := 10) (v := ?_) rfl (by kernel_rfl) (by kernel_rfl) (by kernel_rfl) (by kernel_rfl) (by kernel_rfl) (fun _ _ _ h => h) (Or.inl ⟨by rfl, ?_⟩) (by assumption) ?_
  rotate_left
  · (intro w' hSw; (try dsimp only at hSw); go_simp; with_reducible rfl)
  try simp only [Act.put, List.setIfInBounds_toArray, List.set_cons_zero, List.set_cons_succ]
  refine oneL (i := 11) (by kernel_rfl) rfl (fun K hK => ?_)
  go_simp
  have LA := Lib.hid (Lies.alloc (show Lies w3 h 79 #[.map (some bm)] from L3.out) (.map #[] 0))
  have XA := Lib.hid (Lies.alloc (show Lies w3 w.heap.size 48 #[.int .i64 a, .int .i64 b, .int .i64 c, .int .i64 d, .bool e, .int .i64 f] from X3.out) (.map #[] 0))
  have f0 : (w3.alloc (.map #[] 0)).drew.cell? ⟨h, 0, none⟩ = some (.map (some bm)) := LA.out.cell 0
  have f1 : (w3.alloc (.map #[] 0)).drew.cell? ⟨w.heap.size, 0, none⟩ = some (.int .i64 a) := XA.out.cell 0
  have f2 : (w3.alloc (.map #[] 0)).drew.cell? ⟨w.heap.size, 1, none⟩ = some (.int .i64 b) := XA.out.cell 1
  have f3 : (w3.alloc (.map #[] 0)).drew.cell? ⟨w.heap.size, 2, none⟩ = some (.int .i64 c) := XA.out.cell 2
  clear hS d0 d1 d2 d3
  refine hK.out _ _ (fun _ => ⟨f0, f1, f2, f3⟩) ?_
  clear hK K
  try simp only [Act.put, List.setIfInBounds_toArray, List.set_cons_zero, List.set_cons_succ]
  have hS := And.intro f0 (And.intro f1 (And.intro f2 f3))
  refine takeL (i := 12) (v := ?_) rfl (by kernel_rfl) (by kernel_rfl) (by kernel_rfl) (by kernel_rfl) (by kernel_rfl) (fun _ _ _ h => h) (Or.inl ⟨by rfl, ?_⟩) (by assumption) ?_
  rotate_left
  · (intro w' hSw; (try dsimp only at hSw); go_simp; with_reducible rfl)
  try simp only [Act.put, List.setIfInBounds_toArray, List.set_cons_zero, List.set_cons_succ]
  refine oneL (i := 13) (by kernel_rfl) rfl (fun K hK => ?_)
  go_simp
  have LB := Lib.hid (LA.out.alloc (.cells #[.int .i64 b, .int .i64 c, .pointer (some ⟨sa, 0, none⟩), .map (some w3.heap.size)] 72))
  have XB := Lib.hid (XA.out.alloc (.cells #[.int .i64 b, .int .i64 c, .pointer (some ⟨sa, 0, none⟩), .map (some w3.heap.size)] 72))
  have B5 := Lib.hid (((Below.refl w3.heap.size w3).alloc (Nat.le_refl _) (.map #[] 0)).alloc (by simp) (.cells #[.int .i64 b, .int .i64 c, .pointer (some ⟨sa, 0, none⟩), .map (some w3.heap.size)] 72))
  have OW5 := Lib.hid (Ms.own_like OW3.out (B5.out.block bm OW3.out.lt))
  obtain ⟨w5, hw5⟩ : ∃ w5, (w3.alloc (.map #[] 0)).alloc (.cells #[.int .i64 b, .int .i64 c, .pointer (some ⟨sa, 0, none⟩), .map (some w3.heap.size)] 72) = w5 := ⟨_, rfl⟩
  have HW5 := Lib.hid hw5
  rw [hw5] at LB XB OW5 ⊢
  clear hw5
  have g0 : w5.drew.cell? ⟨h, 0, none⟩ = some (.map (some bm)) := LB.out.cell 0
  have g1 : w5.drew.cell? ⟨w.heap.size, 0, none⟩ = some (.int .i64 a) := XB.out.cell 0
  have g2 : w5.drew.cell? ⟨w.heap.size, 1, none⟩ = some (.int .i64 b) := XB.out.cell 1
  have g3 : w5.drew.cell? ⟨w.heap.size, 2, none⟩ = some (.int .i64 c) := XB.out.cell 2
  clear hS f0 f1 f2 f3
  refine hK.out _ _ (fun _ => ⟨g0, g1, g2, g3⟩) ?_
  clear hK K
  try simp only [Act.put, List.setIfInBounds_toArray, List.set_cons_zero, List.set_cons_succ]
  have hS := And.intro g0 (And.intro g1 (And.intro g2 g3))
  refine oneL (i := 14) (by kernel_rfl) rfl (fun K hK => ?_)
  refine op_update _ rfl _ _ _ 77 rfl 3 58 Ms.lawI Try.underlying77 (Ms.rdF Qf) bm L.length D rfl (show w5.drew.ownsMap Try.prog 3 (Ms.rdF Qf) bm L.length D from Ms.own_like OW5.out rfl) HLe.out _ _ (.int .i64 a) rfl rfl HKEY.out (qdat (some (w3.heap.size + 1))) [] (Ms.rd_mk (Fm := Qf) (some (w3.heap.size + 1))) ?_
  intro w9 ho9 hg9
  have RL := Lib.hid (padd_end (w3 := w3) HP.out HF.out T3.out HBM.out L3.out OW3.out HMq.out HN.out S3.out (Nat.le_succ _) HSB.out (by rw [show (w3.alloc (.map #[] 0)).alloc (.cells #[.int .i64 b, .int .i64 c, .pointer (some ⟨sa, 0, none⟩), .map (some w3.heap.size)] 72) = w5 from HW5.out]; exact ⟨hg9.os, hg9.tape, hg9.output, hg9.size, hg9.block⟩) ho9)
  clear hS g0 g1 g2 g3 ho9 hg9
  refine hK.out _ _ (fun h => absurd h (by decide)) ?_
  clear hK K
  try simp only [Act.put]
  refine doneO (by kernel_rfl) ?_ _
  go_wp2
  go_ret
  exact ⟨rfl, RL.out⟩
set_option maxRecDepth 100000 in
set_option maxHeartbeats 8000000 in
/-- The first one. -/
theorem padd_first (J : Se.Face) (I : Ex.Face) (B h : Nat) (F : Nat → Prop)  (L : List Pz) (z : Ms.Zn) (w : World) (hp : PLg J I w B h (none) L) (hF : ∀ k, F k ↔ LF h (none) L k) (hL : L.length ≤ 1000) (hz : 1 ≤ z.id) (hI : I64 z.id) (hm : mayB z.worst z.gap = true) (hn : atZ z.id (L.map Pz.z) = none) :
    Calls Try.prog 17 #[.pointer (some ⟨h, 0, none⟩), Ms.zval z] w fun e w' => e = .returned (.int .i64 0) ∧ Left (DBl J I) w B h F (L.map Pz.z ++ [⟨z.id, z.worst, z.gap, []⟩]) w' := by
  have CN := Lib.hid (fun W => J.new_yes z.worst z.gap W hm)
  have K := Lib.hid (fun W (hW : Below w.heap.size w W) => tlook_q Try.underlying77 zeroPz hp.tab (in64_i hI) W hW)
  have HL := Lib.hid hp.blk
  have HP := Lib.hid hp
  have HF := Lib.hid hF
  have HN := Lib.hid hn
  have HKEY := Lib.hid (Ms.key_of (in64_i hI))
  have HLe := Lib.hid (show L.length < maxLen by unfold maxLen; omega)
  rw [no_zone hn] at K
  simp only [qval, Option.isSome_none] at K
  have hL0 : L = [] := by
    rcases HP.out.tab with ⟨_, h2⟩ | ⟨b', D, h1, _⟩
    · simpa using h2
    · cases h1
  subst hL0
  obtain ⟨a, b, c, d, e, f⟩ := z
  simp only [Ms.zval] at hz CN K HN HKEY ⊢
  have B0 := Lib.hid (alloc_below w (.cells #[.int .i64 a, .int .i64 b, .int .i64 c, .int .i64 d, .bool e, .int .i64 f] 48))
  have X0 := Lib.hid (Lies.new w 48 #[.int .i64 a, .int .i64 b, .int .i64 c, .int .i64 d, .bool e, .int .i64 f])
  have S0 := Lib.hid (show (w.alloc (.cells #[.int .i64 a, .int .i64 b, .int .i64 c, .int .i64 d, .bool e, .int .i64 f] 48)).heap.size = w.heap.size + 1 by simp)
  have t0 : decide (a < 1) = false := by simp; omega
  have EN := fun W => run_eql_map_nil (P := Try.prog) W 77 3 58 (none) Try.underlying77
  have hmm := @run_makeMap Try.prog
  clear hm hp hI hn hF hL
  go_enter Try.func17, Try.ntmps17
  go_wp2_with fail
  refine (CN.out _).mono ?_
  rintro e w2 ⟨sa, sF, rfl, hS, hb⟩
  have B2 := Lib.hid (B0.out.trans (hb.mono B0.out.size))
  have X2 := Lib.hid (X0.out.below hb X0.out.lt)
  rw [S0.out] at hS
  have S2 := Lib.hid hS
  have l0 : w2.cell? ⟨h, 0, none⟩ = some (.map (none)) := (HL.out.below B2.out HL.out.lt).cell 0
  have x0 : w2.cell? ⟨w.heap.size, 0, none⟩ = some (.int .i64 a) := X2.out.cell 0
  have k0 := fun n => K.out (w2.drewN n) (below_drewN B2.out n)
  clear hb CN hS X0 B0 S0
  go_wp2_with fail
  go_quiet (fail)
  clear k0 l0 x0 K
  rename_i nq
  have S3 := Lib.hid (J.turn S2.out (T := fun _ => False) ((Turn.refl _ w2).drewN nq) (fun _ _ hf => hf))
  have B3 := Lib.hid (below_drewN B2.out nq)
  have X3 := Lib.hid (X2.out.turn (S := fun _ => False) ((Turn.refl _ w2).drewN nq) (fun hf => hf))
  generalize w2.drewN nq = w3 at *
  clear B2 X2 S2
  have L3 := Lib.hid (HL.out.below B3.out HL.out.lt)
  have l0 : w3.cell? ⟨h, 0, none⟩ = some (.map (none)) := L3.out.cell 0
  have f0 : w3.frozen? ⟨h, 0, none⟩ = false := L3.out.frozen 0
  have FC : ∀ ob i, (w3.alloc ob).cell? ⟨h, i, none⟩ = w3.cell? ⟨h, i, none⟩ := fun ob i => (alloc_below w3 ob).cell (p := ⟨h, i, none⟩) L3.out.lt
  have FG : ∀ ob i, (w3.alloc ob).frozen? ⟨h, i, none⟩ = w3.frozen? ⟨h, i, none⟩ := fun ob i => (alloc_below w3 ob).frozen (p := ⟨h, i, none⟩) L3.out.lt
  have B4 := Lib.hid (B3.out.alloc B3.out.size (.map #[] 0))
  have L4 := Lib.hid (L3.out.alloc (.map #[] 0))
  have X4 := Lib.hid (X3.out.alloc (.map #[] 0))
  have O4 := Lib.hid (World.ownsMap_made (H := Unit) w3 Try.prog 3 (Ms.rdF Qf))
  have S4 := Lib.hid (J.keep S3.out (alloc_below w3 (.map #[] 0)))
  have HLT := Lib.hid HL.out.lt
  have HSL := Lib.hid (fun k hk => J.foot S3.out (k := k) hk)
  have HW3 := Lib.hid B3.out.size
  have HX := Lib.hid X3.out.lt
  go_wp2_with fail
  clear l0 EN f0 FC FG
  obtain ⟨w4, hw4⟩ : ∃ w4, w3.alloc (.map #[] 0) = w4 := ⟨_, rfl⟩
  rw [hw4] at B4 L4 X4 O4 S4 ⊢
  clear hw4 L3 X3 S3 B3
  have hne : w3.heap.size ≠ h := by have h1 := HLT.out; have h2 := HW3.out; omega
  have L3 : Hid (Lies (w4.setCell ⟨h, 0, none⟩ (.map (some w3.heap.size))) h 79 #[.map (some w3.heap.size)]) := Lib.hid (by simpa using L4.out.set_ 0 (.map (some w3.heap.size)))
  have X3 : Hid (Lies (w4.setCell ⟨h, 0, none⟩ (.map (some w3.heap.size))) w.heap.size 48 #[.int .i64 a, .int .i64 b, .int .i64 c, .int .i64 d, .bool e, .int .i64 f]) :=
    Lib.hid (X4.out.like (Below.heap_setCell w4 ⟨h, 0, none⟩ _ _ (by have h1 := HLT.out; simp only; omega)))
  have OW3 := Lib.hid (Ms.own_like O4.out (Below.heap_setCell w4 ⟨h, 0, none⟩ (.map (some w3.heap.size)) w3.heap.size hne))
  have T3 := Lib.hid ((Turn.of_below (S := fun k => k = h ∨ none = some k) B4.out).setCell (p := ⟨h, 0, none⟩) (.inl (.inl rfl)) (.map (some w3.heap.size)))
  have S3 := Lib.hid (J.turn S4.out (T := fun k => k = h) ((Turn.refl (fun k => k = h) w4).setCell (p := ⟨h, 0, none⟩) (.inl rfl) (.map (some w3.heap.size))) (fun k hk e => by have h1 := (HSL.out k hk).1; have h2 := HLT.out; omega))
  have HBM := Lib.hid (show none = some w3.heap.size ∨ w.heap.size ≤ w3.heap.size from .inr HW3.out)
  have HSB := Lib.hid (show ∀ k, sF k → k ≠ w3.heap.size from fun k hk e => by have h1 := (HSL.out k hk).2; omega)
  have HMq := Lib.hid (show Mq (.map []) (List.map pkq []) from mq_nil)
  clear hne B4 L4 X4 O4 S4 HSL HW3 HX
  generalize w3.heap.size = bm at *
  clear HLT
  generalize w4.setCell ⟨h, 0, none⟩ (.map (some bm)) = w3 at *
  have d0 : w3.drew.cell? ⟨h, 0, none⟩ = some (.map (some bm)) := L3.out.cell 0
  have d1 : w3.drew.cell? ⟨w.heap.size, 0, none⟩ = some (.int .i64 a) := X3.out.cell 0
  have d2 : w3.drew.cell? ⟨w.heap.size, 1, none⟩ = some (.int .i64 b) := X3.out.cell 1
  have d3 : w3.drew.cell? ⟨w.heap.size, 2, none⟩ = some (.int .i64 c) := X3.out.cell 2
  refine region_T 14 (fun w' => w'.cell? ⟨h, 0, none⟩ = some (.map (some bm)) ∧ w'.cell? ⟨w.heap.size, 0, none⟩ = some (.int .i64 a) ∧ w'.cell? ⟨w.heap.size, 1, none⟩ = some (.int .i64 b) ∧ w'.cell? ⟨w.heap.size, 2, none⟩ = some (.int .i64 c)) (by kernel_rfl) ⟨d0, d1, d2, d3⟩ (fun hS => ?_)
  refine takeL (i := 0) (v := ?_) rfl (by kernel_rfl) (by kernel_rfl) (by kernel_rfl) (by kernel_rfl) (by kernel_rfl) (fun _ _ _ h => h) (Or.inl ⟨by rfl, ?_⟩) (by assumption) ?_
  rotate_left
  · (intro w' hSw; (try dsimp only at hSw); go_simp; with_reducible rfl)
  try simp only [Act.put, List.setIfInBounds_toArray, List.set_cons_zero, List.set_cons_succ]
  refine takeL (i := 1) (v := ?_) rfl (by kernel_rfl) (by kernel_rfl) (by kernel_rfl) (by kernel_rfl) (by kernel_rfl) (fun _ _ _ h => h) (Or.inl ⟨by rfl, ?_⟩) (by assumption) ?_
  rotate_left
  · (intro w' hSw; (try dsimp only at hSw); go_simp; with_reducible rfl)
  try simp only [Act.put, List.setIfInBounds_toArray, List.set_cons_zero, List.set_cons_succ]
  refine takeL (i := 2) (v := ?_) rfl (by kernel_rfl) (by kernel_rfl) (by kernel_rfl) (by kernel_rfl) (by kernel_rfl) (fun _ _ _ h => h) (Or.inl ⟨by rfl, ?_⟩) (by assumption) ?_
  rotate_left
  · (intro w' hSw; (try dsimp only at hSw); go_simp; with_reducible rfl)
  try simp only [Act.put, List.setIfInBounds_toArray, List.set_cons_zero, List.set_cons_succ]
  refine takeL (i := 3) (v := ?_) rfl (by kernel_rfl) (by kernel_rfl) (by kernel_rfl) (by kernel_rfl) (by kernel_rfl) (fun _ _ _ h => h) (Or.inl ⟨by rfl, ?_⟩) (by assumption) ?_
  rotate_left
  · (intro w' hSw; (try dsimp only at hSw); go_simp; with_reducible rfl)
  try simp only [Act.put, List.setIfInBounds_toArray, List.set_cons_zero, List.set_cons_succ]
  refine takeL (i := 4) (v := ?_) rfl (by kernel_rfl) (by kernel_rfl) (by kernel_rfl) (by kernel_rfl) (by kernel_rfl) (fun _ _ _ h => h) (Or.inl ⟨by rfl, ?_⟩) (by assumption) ?_
  rotate_left
  · (intro w' hSw; (try dsimp only at hSw); go_simp; with_reducible rfl)
  try simp only [Act.put, List.setIfInBounds_toArray, List.set_cons_zero, List.set_cons_succ]
  refine takeL (i := 5) (v := ?_) rfl (by kernel_rfl) (by kernel_rfl) (by kernel_rfl) (by kernel_rfl) (by kernel_rfl) (fun _ _ _ h => h) (Or.inl ⟨by rfl, ?_⟩) (by assumption) ?_
  rotate_left
  · (intro w' hSw; (try dsimp only at hSw); go_simp; with_reducible rfl)
  try simp only [Act.put, List.setIfInBounds_toArray, List.set_cons_zero, List.set_cons_succ]
  refine takeL (i := 6) (v := ?_) rfl (by kernel_rfl) (by kernel_rfl) (by kernel_rfl) (by kernel_rfl) (by kernel_rfl) (fun _ _ _ h => h) (Or.inl ⟨by rfl, ?_⟩) (by assumption) ?_
  rotate_left
  · (intro w' hSw; (try dsimp only at hSw); go_simp; with_reducible rfl)
  try simp only [Act.put, List.setIfInBounds_toArray, List.set_cons_zero, List.set_cons_succ]
  refine takeL (i := 7) (v := ?_) rfl (by kernel_rfl) (by kernel_rfl) (by kernel_rfl) (by kernel_rfl) (by kernel_rfl) (fun _ _ _ h => h) (Or.inl ⟨by rfl, ?_⟩) (by assumption) ?_
  rotate_left
  · (intro w' hSw; (try dsimp only at hSw); go_simp; with_reducible rfl)
  try simp only [Act.put, List.setIfInBounds_toArray, List.set_cons_zero, List.set_cons_succ]
  refine takeL (i := 8) (v := ?_) rfl (by kernel_rfl) (by kernel_rfl) (by kernel_rfl) (by kernel_rfl) (by kernel_rfl) (fun _ _ _ h => h) (Or.inl ⟨by rfl, ?_⟩) (by assumption) ?_
  rotate_left
  · (intro w' hSw; (try dsimp only at hSw); go_simp; with_reducible rfl)
  try simp only [Act.put, List.setIfInBounds_toArray, List.set_cons_zero, List.set_cons_succ]
  refine takeL (i := 9) (v := ?_) rfl (by kernel_rfl) (by kernel_rfl) (by kernel_rfl) (by kernel_rfl) (by kernel_rfl) (fun _ _ _ h => h) (Or.inl ⟨by rfl, ?_⟩) (by assumption) ?_
  rotate_left
  · (intro w' hSw; (try dsimp only at hSw); go_simp; with_reducible rfl)
  try simp only [Act.put, List.setIfInBounds_toArray, List.set_cons_zero, List.set_cons_succ]
  refine takeL (i := 10) (v := ?_) rfl (by kernel_rfl) (by kernel_rfl) (by kernel_rfl) (by kernel_rfl) (by kernel_rfl) (fun _ _ _ h => h) (Or.inl ⟨by rfl, ?_⟩) (by assumption) ?_
  rotate_left
  · (intro w' hSw; (try dsimp only at hSw); go_simp; with_reducible rfl)
  try simp only [Act.put, List.setIfInBounds_toArray, List.set_cons_zero, List.set_cons_succ]
  refine oneL (i := 11) (by kernel_rfl) rfl (fun K hK => ?_)
  go_simp
  have LA := Lib.hid (Lies.alloc (show Lies w3 h 79 #[.map (some bm)] from L3.out) (.map #[] 0))
  have XA := Lib.hid (Lies.alloc (show Lies w3 w.heap.size 48 #[.int .i64 a, .int .i64 b, .int .i64 c, .int .i64 d, .bool e, .int .i64 f] from X3.out) (.map #[] 0))
  have f0 : (w3.alloc (.map #[] 0)).drew.cell? ⟨h, 0, none⟩ = some (.map (some bm)) := LA.out.cell 0
  have f1 : (w3.alloc (.map #[] 0)).drew.cell? ⟨w.heap.size, 0, none⟩ = some (.int .i64 a) := XA.out.cell 0
  have f2 : (w3.alloc (.map #[] 0)).drew.cell? ⟨w.heap.size, 1, none⟩ = some (.int .i64 b) := XA.out.cell 1
  have f3 : (w3.alloc (.map #[] 0)).drew.cell? ⟨w.heap.size, 2, none⟩ = some (.int .i64 c) := XA.out.cell 2
  clear hS d0 d1 d2 d3
  refine hK.out _ _ (fun _ => ⟨f0, f1, f2, f3⟩) ?_
  clear hK K
  try simp only [Act.put, List.setIfInBounds_toArray, List.set_cons_zero, List.set_cons_succ]
  have hS := And.intro f0 (And.intro f1 (And.intro f2 f3))
  refine takeL (i := 12) (v := ?_) rfl (by kernel_rfl) (by kernel_rfl) (by kernel_rfl) (by kernel_rfl) (by kernel_rfl) (fun _ _ _ h => h) (Or.inl ⟨by rfl, ?_⟩) (by assumption) ?_
  rotate_left
  · (intro w' hSw; (try dsimp only at hSw); go_simp; with_reducible rfl)
  try simp only [Act.put, List.setIfInBounds_toArray, List.set_cons_zero, List.set_cons_succ]
  refine oneL (i := 13) (by kernel_rfl) rfl (fun K hK => ?_)
  go_simp
  have LB := Lib.hid (LA.out.alloc (.cells #[.int .i64 b, .int .i64 c, .pointer (some ⟨sa, 0, none⟩), .map (some w3.heap.size)] 72))
  have XB := Lib.hid (XA.out.alloc (.cells #[.int .i64 b, .int .i64 c, .pointer (some ⟨sa, 0, none⟩), .map (some w3.heap.size)] 72))
  have B5 := Lib.hid (((Below.refl w3.heap.size w3).alloc (Nat.le_refl _) (.map #[] 0)).alloc (by simp) (.cells #[.int .i64 b, .int .i64 c, .pointer (some ⟨sa, 0, none⟩), .map (some w3.heap.size)] 72))
  have OW5 := Lib.hid (Ms.own_like OW3.out (B5.out.block bm OW3.out.lt))
  obtain ⟨w5, hw5⟩ : ∃ w5, (w3.alloc (.map #[] 0)).alloc (.cells #[.int .i64 b, .int .i64 c, .pointer (some ⟨sa, 0, none⟩), .map (some w3.heap.size)] 72) = w5 := ⟨_, rfl⟩
  have HW5 := Lib.hid hw5
  rw [hw5] at LB XB OW5 ⊢
  clear hw5
  have g0 : w5.drew.cell? ⟨h, 0, none⟩ = some (.map (some bm)) := LB.out.cell 0
  have g1 : w5.drew.cell? ⟨w.heap.size, 0, none⟩ = some (.int .i64 a) := XB.out.cell 0
  have g2 : w5.drew.cell? ⟨w.heap.size, 1, none⟩ = some (.int .i64 b) := XB.out.cell 1
  have g3 : w5.drew.cell? ⟨w.heap.size, 2, none⟩ = some (.int .i64 c) := XB.out.cell 2
  clear hS f0 f1 f2 f3
  refine hK.out _ _ (fun _ => ⟨g0, g1, g2, g3⟩) ?_
  clear hK K
  try simp only [Act.put, List.setIfInBounds_toArray, List.set_cons_zero, List.set_cons_succ]
  have hS := And.intro g0 (And.intro g1 (And.intro g2 g3))
  refine oneL (i := 14) (by kernel_rfl) rfl (fun K hK => ?_)
  refine op_update _ rfl _ _ _ 77 rfl 3 58 Ms.lawI Try.underlying77 (Ms.rdF Qf) bm 0 (.map []) rfl (show w5.drew.ownsMap Try.prog 3 (Ms.rdF Qf) bm 0 (.map []) from Ms.own_like OW5.out rfl) (by unfold maxLen; omega) _ _ (.int .i64 a) rfl rfl HKEY.out (qdat (some (w3.heap.size + 1))) [] (Ms.rd_mk (Fm := Qf) (some (w3.heap.size + 1))) ?_
  intro w9 ho9 hg9
  have RL := Lib.hid (padd_end (w3 := w3) HP.out HF.out T3.out HBM.out L3.out OW3.out HMq.out HN.out S3.out (Nat.le_succ _) HSB.out (by rw [show (w3.alloc (.map #[] 0)).alloc (.cells #[.int .i64 b, .int .i64 c, .pointer (some ⟨sa, 0, none⟩), .map (some w3.heap.size)] 72) = w5 from HW5.out]; exact ⟨hg9.os, hg9.tape, hg9.output, hg9.size, hg9.block⟩) ho9)
  clear hS g0 g1 g2 g3 ho9 hg9
  refine hK.out _ _ (fun h => absurd h (by decide)) ?_
  clear hK K
  try simp only [Act.put]
  refine doneO (by kernel_rfl) ?_ _
  go_wp2
  go_ret
  exact ⟨rfl, RL.out⟩
end Lg
end Go.Proofs.Ytehiclmkdpcplaa
