/- Layer 13's law: minute by minute. Conditions: the stays' and puts' slices are no longer than their capacity, numbers fit. Layer 13's laws over arguments that came in. Conditions: none but what comes in. Walks over package excess: the sum up to a minute that is known. Conditions: an index whose parts reckon what they say. Walks over package excess: minutes in runs, by a range over a function: the iterator's contract. Conditions: a series in order, minutes that count. Walks over package excess: a series' sum. Conditions: a series in order, that may be. -/
import Derived.Test.YtehiclmkdpcplaaQ13
import Derived.Test.YtehiclmkdpcplaaQ12
import Derived.Test.YtehiclmkdpcplaaQ08
import Derived.Test.YtehiclmkdpcplaaQ07
import Derived.Scope
import Derived.WalkMore
import Derived.StillTailTactics
namespace Go.Proofs.Ytehiclmkdpcplaa
open Go.RowKit

namespace Lg
open Se
/-- A ledger whose memory begins later. -/
def Low (D : World → Nat → Nat → (Nat → Prop) → List Zl → Prop) (w : World) (B h : Nat) (F : Nat → Prop) (st : List Zl) : Prop := ∃ B2, B ≤ B2 ∧ D w B2 h F st
theorem low_turns {D : World → Nat → Nat → (Nat → Prop) → List Zl → Prop} (h : Turns D) : Turns (Low D) := fun _ _ _ _ _ _ _ ⟨B2, h1, h2⟩ ht hs => ⟨B2, h1, h _ _ _ _ _ _ _ h2 ht hs⟩
theorem low_feeted {D : World → Nat → Nat → (Nat → Prop) → List Zl → Prop} (h : Feeted D) : Feeted (Low D) := fun _ _ _ _ _ _ ⟨_, h1, h2⟩ hk => ⟨Nat.le_trans h1 (h _ _ _ _ _ _ h2 hk).1, (h _ _ _ _ _ _ h2 hk).2⟩
theorem low_left {D : World → Nat → Nat → (Nat → Prop) → List Zl → Prop} {w w' : World} {B B2 h : Nat} {F : Nat → Prop} {s : List Zl} (hB : B ≤ B2) (hl : Left D w B2 h F s w') : Left (Low D) w B h F s w' := by
  obtain ⟨F', h1, h2, h3⟩ := hl
  exact ⟨F', ⟨B2, hB, h1⟩, h2, h3⟩
section
variable {D1 : World → Nat → Nat → (Nat → Prop) → List Zl → Prop} {w0 : World} {X : Nat → Prop} {h g : Nat}
theorem two_putL (I : Face) (t1 : Turns D1) {w : World} {s t : List Zl} (hb : Both D1 (Low I.DB) w0 X h g w s t) (hG : Good t 1000) (hL : t.length ≤ 1000) (zone : Int) (r : Rd) (hz : I64 zone) :
    Calls Try.prog 8 #[.pointer (some ⟨g, 0, none⟩), .int .i64 zone, rval r] w fun e w' => e = .returned (.tuple #[.bool (putZ t zone r).1.1, .int .i64 ((putZ t zone r).1.2 : Nat)]) ∧ Both D1 (Low I.DB) w0 X h g w' s (putZ t zone r).2 ∧ StillX X w w' :=
  both_call2 t1 (low_feeted I.feeted) hb (fun F ⟨B2, hB, hd⟩ _ => (I.put B2 g F t zone r w hd hG hL hz).mono (fun _ _ hh => ⟨hh.1, low_left hB hh.2⟩))
theorem two_expoL (I : Face) (t1 : Turns D1) {w : World} {s t : List Zl} (hb : Both D1 (Low I.DB) w0 X h g w s t) (hG : Good t 1000) (hL : t.length ≤ 1000) (lim : Int) (p : Option Addr) (n c : Nat) (S : List Sy.Sy) (m : Int) (hl : I64 lim) (hm : I64 m) (hr : Rw 3 Sy.scells w p n S) (hn : n ≤ 100000) (hnc : n ≤ c) (hS : Sok S) (ho : Off w0 X p n) :
    Calls Try.prog 10 #[.pointer (some ⟨g, 0, none⟩), .int .i64 lim, .slice p n c, .int .i64 m] w fun e w' => e = .returned (.int .i64 (expo t lim S m)) ∧ Both D1 (Low I.DB) w0 X h g w' s t ∧ StillX X w w' :=
  both_call2 t1 (low_feeted I.feeted) hb (fun F ⟨B2, hB, hd⟩ hX => (I.expo B2 g F t lim p n c S m w hd hG hL hl hm hr hn hnc hS (off_not ho hX)).mono (fun _ _ hh => ⟨hh.1, low_left hB hh.2⟩))
end
/-- Two of package ledger's, one made after the other. -/
theorem both_two (I : Face) {w1 w2 w3 : World} {h g h' g' : Nat} {s t s2 t2 : List Zl} (ha : Both I.DB Rg w1 (fun _ => False) h g w2 s t) (hb : Both I.DB Rg w2 (fun _ => False) h' g' w3 s2 t2) : Both I.DB (Low I.DB) w1 (fun _ => False) h h' w3 s s2 := by
  obtain ⟨⟨F, _, a1, _, _, a4, _⟩, _, a7⟩ := ha
  obtain ⟨⟨F', _, b1, _, _, b4, _⟩, _, b7⟩ := hb
  have hs := b7.size
  have hs2 := a7.size
  refine ⟨⟨F, F', I.keep a1 b7, ⟨w2.heap.size, hs2, b1⟩, fun k hk hk2 => ?_, fun k hk => ⟨(a4 k hk).1, by have := (a4 k hk).2.1; omega, fun hf => hf⟩, fun k hk => ⟨by have := (b4 k hk).1; omega, (b4 k hk).2.1, fun hf => hf⟩⟩, fun _ hf => hf.elim, a7.trans (b7.mono hs2)⟩
  have := (a4 k hk).2.1
  have := (b4 k hk2).1
  omega
/-- From behind, each twice. -/
def back (l : List Pt) (k : Nat) : List Pt := (l.reverse.take k).flatMap fun p => [p, p]
theorem back_next {l : List Pt} {k : Nat} {p : Pt} (h : l.reverse[k]? = some p) : back l (k + 1) = (back l k ++ [p]) ++ [p] := by
  unfold back
  rw [List.take_add_one, h, Option.toList_some, List.flatMap_append, List.append_assoc]
  rfl
theorem back_at {l : List Pt} {k : Nat} (hk : k < l.length) : l.reverse[k]? = l[l.length - 1 - k]? := by
  rw [List.getElem?_reverse hk]
theorem back_len (l : List Pt) (k : Nat) : (back l k).length ≤ 2 * k := by
  unfold back
  rw [List.length_flatMap]
  have : ∀ L : List Pt, (L.map fun p => ([p, p] : List Pt).length).sum = 2 * L.length := by
    intro L
    induction L with
    | nil => rfl
    | cons x L ih =>
      simp only [List.map_cons, List.sum_cons, List.length_cons, List.length_nil] at ih ⊢
      omega
  rw [this, List.length_take]
  omega
theorem back_mem (l : List Pt) (p : Pt) : p ∈ l ↔ p ∈ back l l.length := by
  unfold back
  rw [List.take_of_length_le (by simp)]
  simp [List.mem_flatMap]
theorem back_same {st : List Zl} (h0 : ∀ x ∈ st, x.S = []) (l : List Pt) : putsZ st (back l l.length) = putsZ st l := (putsZ_like h0 (back_mem l)).symm
theorem expo_nil {l : List Zl} {lim m : Int} {S : List Sy.Sy} (h : (Sy.uptoV S m).length = 0) : expo l lim S m = 0 := by
  rw [expo, List.eq_nil_of_length_eq_zero h]
  rfl
theorem run_mx (ts : Array TypeId) (t : TypeId) (a b : Int) (w : World) : (Builtin.max_ ts t #[.int .i64 a, .int .i64 b]).run Try.prog w = .ok (.int .i64 (max a b)) w := by
  have e : (if b > a then b else a) = max a b := by omega
  rw [run_max_int2, e]
theorem infoT : (Try.prog.info? 52).map (fun i => (i.zero, i.size, i.bytes)) = some (some (.agg #[.int .i64 0, .int .i64 0, .int .i64 0]), 3, 24) := by kernel_rfl
set_option maxRecDepth 100000 in
set_option maxHeartbeats 4000000 in
theorem minutes_long (I : Face) (zp up p : Option Addr) (zn zc un uc n c : Nat) (lim m : Int) (w : World) (hn : n ≤ 9223372036854775807) (hzn : zn ≤ 9223372036854775807) (hun : un ≤ 9223372036854775807) (hl : 40 < n ∨ 40 < zn ∨ 40 < un) :
    Calls Try.prog 4 #[.slice zp zn zc, .slice up un uc, .agg #[.int .i64 lim, .slice p n c, .int .i64 m]] w fun e w' => e = .returned (.bool true) ∧ Below w.heap.size w w' := by
  have AL := Lib.hid (fun W => alive_any I W)
  have B0 := Lib.hid (alloc_below w (.cells #[.int .i64 lim, .slice p n c, .int .i64 m] 26))
  have X0 := Lib.hid (Lies.new w 26 #[.int .i64 lim, .slice p n c, .int .i64 m])
  have hzn' : (zn : Int) ≤ 9223372036854775807 := by omega
  have hun' : (un : Int) ≤ 9223372036854775807 := by omega
  have hn' : (n : Int) ≤ 9223372036854775807 := by omega
  obtain ⟨w1, hw1⟩ : ∃ w1, w.alloc (.cells #[.int .i64 lim, .slice p n c, .int .i64 m] 26) = w1 := ⟨_, rfl⟩
  rw [hw1] at B0 X0
  have z1 : w1.cell? ⟨w.heap.size, 1, none⟩ = some (.slice p n c) := X0.out.cell 1
  go_enter Try.func4, Try.ntmps4
  by_cases h1 : 40 < zn
  · have d1 : decide ((zn : Int) > 40) = true := by simp; omega
    go_wp2_with fail
    refine (AL.out _).mono ?_
    rintro e w3 ⟨rfl, hb⟩
    have B3 := Lib.hid (B0.out.trans (hb.mono B0.out.size))
    clear hb
    go_wp2
    go_ret
    exact ⟨rfl, B3.out⟩
  have d1 : decide ((zn : Int) > 40) = false := by simp; omega
  by_cases h2 : 40 < un
  · have d2 : decide ((un : Int) > 40) = true := by simp; omega
    go_wp2_with fail
    refine (AL.out _).mono ?_
    rintro e w3 ⟨rfl, hb⟩
    have B3 := Lib.hid (B0.out.trans (hb.mono B0.out.size))
    clear hb
    go_wp2
    go_ret
    exact ⟨rfl, B3.out⟩
  have d2 : decide ((un : Int) > 40) = false := by simp; omega
  have d3 : decide ((n : Int) > 40) = true := by simp; omega
  go_wp2_with fail
  refine (AL.out _).mono ?_
  rintro e w3 ⟨rfl, hb⟩
  have B3 := Lib.hid (B0.out.trans (hb.mono B0.out.size))
  clear hb
  go_wp2
  go_ret
  exact ⟨rfl, B3.out⟩
set_option maxRecDepth 100000 in
set_option maxHeartbeats 32000000 in
theorem minutes_short (I : Face) (zp up p : Option Addr) (zn zc un uc n c : Nat) (lim m : Int) (Z : List Ms.Zn) (l : List Pt) (S : List Sy.Sy) (w : World) (hr : Rw 3 Sy.scells w p n S) (hn : n ≤ 40) (hnc : n ≤ c) (hzr : Rw 6 Ms.zcells w zp zn Z) (hzn : zn ≤ 40) (hzi : ∀ z ∈ Z, I64 z.id) (hur : Rw 4 ucells w up un l) (hun : un ≤ 40) (huc : un ≤ uc) (hui : ∀ x ∈ l, I64 x.1) (hS : Sok S) (hl : I64 lim) (hm : I64 m) :
    Calls Try.prog 4 #[.slice zp zn zc, .slice up un uc, .agg #[.int .i64 lim, .slice p n c, .int .i64 m]] w fun e w' => e = .returned (.bool true) ∧ Below w.heap.size w w' := by
  have AL := Lib.hid (fun W => alive_any I W)
  have B0 := Lib.hid (alloc_below w (.cells #[.int .i64 lim, .slice p n c, .int .i64 m] 26))
  have X0 := Lib.hid (Lies.new w 26 #[.int .i64 lim, .slice p n c, .int .i64 m])
  have HR := Lib.hid hr
  have HU := Lib.hid hur
  have HLn := Lib.hid hur.1
  have HUI := Lib.hid hui
  have hzn' : (zn : Int) ≤ 40 := by omega
  have hun' : (un : Int) ≤ 40 := by omega
  have hn' : (n : Int) ≤ 40 := by omega
  have huc' : (un : Int) ≤ (uc : Int) := by omega
  obtain ⟨w1, hw1⟩ : ∃ w1, w.alloc (.cells #[.int .i64 lim, .slice p n c, .int .i64 m] 26) = w1 := ⟨_, rfl⟩
  rw [hw1] at B0 X0
  have z1 : w1.cell? ⟨w.heap.size, 1, none⟩ = some (.slice p n c) := X0.out.cell 1
  have d1 : decide ((zn : Int) > 40) = false := by simp; omega
  have d2 : decide ((un : Int) > 40) = false := by simp; omega
  have d3 : decide ((n : Int) > 40) = false := by simp; omega
  have OF1 := Lib.hid (of_any I zp zn zc Z w1 (hzr.keep Ms.zcells_len B0.out) (by omega) hzi)
  have OF2 := Lib.hid (fun W (hW : Below w1.heap.size w1 W) => of_any I zp zn zc Z W (hzr.keep Ms.zcells_len (B0.out.trans (hW.mono B0.out.size))) (by omega) hzi)
  have HC := Lib.hid (fun W (hW : Below w1.heap.size w1 W) => show W.cell? ⟨w.heap.size, 0, none⟩ = some (.int .i64 lim) ∧ W.cell? ⟨w.heap.size, 1, none⟩ = some (.slice p n c) ∧ W.cell? ⟨w.heap.size, 2, none⟩ = some (.int .i64 m) from
    ⟨(X0.out.below hW X0.out.lt).cell 0, (X0.out.below hW X0.out.lt).cell 1, (X0.out.below hW X0.out.lt).cell 2⟩)
  have HB := Lib.hid (fun W (hW : Below w1.heap.size w1 W) => show Below w.heap.size w W from B0.out.trans (hW.mono B0.out.size))
  have OF := Lib.hid (fun X => st_off HR.out B0.out.size X)
  have HG0 := Lib.hid (runZ_good Z)
  have HN0 := Lib.hid (runZ_new Z)
  have HL0 := Lib.hid (show (runZ Z).length ≤ 40 from Nat.le_trans (runZ_len Z) (by rw [hzr.1]; exact hzn))
  clear hr hzr hur hui hzi
  go_enter Try.func4, Try.ntmps4
  go_wp2_with fail
  refine OF1.out.mono ?_
  rintro e w2 ⟨h, g, rfl, hb1⟩
  have P2 := Lib.hid hb1
  clear hw1 z1 hb1 OF1
  go_wp2_with fail
  refine (OF2.out _ P2.out.bel).mono ?_
  rintro e w3 ⟨h', g', rfl, hb⟩
  have P3 := Lib.hid (both_two I P2.out hb)
  clear hb P2 OF2
  generalize runZ Z = st at *
  have HGk := Lib.hid (fun L (hL : L.length ≤ 80) => show Good (putsZ st L) 1000 from (puts_good HG0.out L).mono (by omega))
  have HLk := Lib.hid (fun L => show (putsZ st L).length ≤ 1000 by rw [puts_len]; have := HL0.out; omega)
  have KT := Lib.hid (fun k => show (l.take k).length ≤ 80 by rw [List.length_take]; have := HLn.out; omega)
  have KB := Lib.hid (fun k (hk : k ≤ un) => show (back l k).length ≤ 80 from Nat.le_trans (back_len l k) (by omega))
  go_wp2_with fail
  go_loopw [13] (fun i wr => ∃ k : Nat, k ≤ un ∧ i = .int .i64 k ∧ Hid (Both I.DB (Low I.DB) w1 (fun _ => False) h h' wr (putsZ st (l.take k)) (putsZ st (back l k)))) (fun i _ => un - (RowKit.intOf i).toNat)
  case atStart => exact ⟨0, Nat.zero_le _, rfl, P3⟩
  case round =>
    clear P3
    obtain ⟨k, hk, rfl, PB⟩ := hrel
    by_cases hlt : k < un
    · have hk3 : (k : Int) < (un : Int) := by omega
      obtain ⟨b, o, e, hc⟩ := HU.out.2 (by omega)
      subst e
      have ECG := Lib.hid (fun (j : Nat) (x : Pt) (hx : l[j]? = some x) W (hW : Below w1.heap.size w1 W) => show W.cell? ⟨b, o + j * 4, none⟩ = some (.int .i64 x.1) ∧ W.cell? ⟨b, o + j * 4 + 1, none⟩ = some (.int .i64 x.2.min) ∧ W.cell? ⟨b, o + j * 4 + 2, none⟩ = some (.int .i64 x.2.seq) ∧ W.cell? ⟨b, o + j * 4 + 3, none⟩ = some (.int .i64 x.2.ten) from by
        have key : ∀ i, i < 4 → W.cell? ⟨b, o + j * 4 + i, none⟩ = (ucells x)[i]? := fun i hi => by
          have h0 := hc j x hx i hi
          refine ((HB.out W hW).cell (p := ⟨b, o + j * 4 + i, none⟩) ?_).trans h0
          rw [List.getElem?_eq_getElem (by rw [ucells_len]; exact hi)] at h0
          exact World.block_lt_of_cell? w _ h0
        exact ⟨key 0 (by decide), key 1 (by decide), key 2 (by decide), key 3 (by decide)⟩)
      clear hc
      obtain ⟨x, hx⟩ : ∃ x, l[k]? = some x := ⟨_, List.getElem?_eq_getElem (by rw [HLn.out]; exact hlt)⟩
      obtain ⟨j, hj⟩ : ∃ j : Nat, un - 1 - k = j := ⟨_, rfl⟩
      have hjl : j < un := by omega
      have hji : (un : Int) - 1 - (k : Int) = (j : Int) := by omega
      obtain ⟨y, hy⟩ : ∃ y, l[j]? = some y := ⟨_, List.getElem?_eq_getElem (by rw [HLn.out]; exact hjl)⟩
      have hyr : l.reverse[k]? = some y := by rw [back_at (by rw [HLn.out]; exact hlt), HLn.out, hj]; exact hy
      have TX := Lib.hid (puts_step (st := st) hx)
      have BN := Lib.hid (back_next hyr)
      have E1 := Lib.hid (putsZ_snoc st (back l k) y)
      have E2 := Lib.hid (putsZ_snoc st (back l k ++ [y]) y)
      have GA := Lib.hid (HGk.out _ (KT.out k))
      have GB := Lib.hid (HGk.out _ (KT.out (k + 1)))
      have GC := Lib.hid (HGk.out _ (KB.out k hk))
      have GD := Lib.hid (HGk.out _ (show (back l k ++ [y]).length ≤ 80 by have := back_len l k; rw [List.length_append]; simp only [List.length_cons, List.length_nil]; omega))
      have LA := Lib.hid (HLk.out (l.take k))
      have LB := Lib.hid (HLk.out (l.take (k + 1)))
      have LC := Lib.hid (HLk.out (back l k))
      have LD := Lib.hid (HLk.out (back l k ++ [y]))
      rw [TX.out] at GB LB
      rw [E1.out] at GD LD E2
      have HXI := Lib.hid (HUI.out x (List.mem_of_getElem? hx))
      have HYI := Lib.hid (HUI.out y (List.mem_of_getElem? hy))
      have EX := Lib.hid (ECG.out k x hx)
      have EY := Lib.hid (ECG.out j y hy)
      have hja : ((l.take k), back l k) = ((l.take k), back l k) := rfl
      generalize hA : putsZ st (l.take k) = A at *
      generalize hC : putsZ st (back l k) = C at *
      have SN := Lib.hid (fun W (hW : Both I.DB (Low I.DB) w1 (fun _ => False) h h' W ((putZ A x.1 x.2).2) ((putZ (putZ C y.1 y.2).2 y.1 y.2).2)) => show Both I.DB (Low I.DB) w1 (fun _ => False) h h' W (putsZ st (l.take (k + 1))) (putsZ st (back l (k + 1))) from by rw [TX.out, BN.out, E2.out]; exact hW)
      have C1 := Lib.hid (fun W (hW : Both I.DB (Low I.DB) w1 (fun _ => False) h h' W (A) (C)) => two_put1 I (low_turns I.turns) hW GA.out LA.out x.1 x.2 HXI.out)
      have CE := Lib.hid (fun W (hW : Both I.DB (Low I.DB) w1 (fun _ => False) h h' W ((putZ A x.1 x.2).2) (C)) => two_expo1 I (low_turns I.turns) hW GB.out LB.out lim p n c S m hl hm (HR.out.keep Sy.scells_len (HB.out W hW.bel)) (by omega) hnc hS (OF.out _))
      have C2 := Lib.hid (fun W (hW : Both I.DB (Low I.DB) w1 (fun _ => False) h h' W ((putZ A x.1 x.2).2) (C)) => two_putL I I.turns hW GC.out LC.out y.1 y.2 HYI.out)
      have C3 := Lib.hid (fun W (hW : Both I.DB (Low I.DB) w1 (fun _ => False) h h' W ((putZ A x.1 x.2).2) ((putZ C y.1 y.2).2)) => two_putL I I.turns hW GD.out LD.out y.1 y.2 HYI.out)
      clear TX BN E1 E2 GA GB GC GD LA LB LC LD HXI HYI hx hy hyr ECG hA hC hj hja
      generalize (putZ A x.1 x.2).2 = A2 at *
      generalize (putZ A x.1 x.2).1.1 = r1 at *
      generalize (putZ A x.1 x.2).1.2 = r2 at *
      generalize hC2 : (putZ C y.1 y.2).2 = C2s at *
      generalize (putZ C y.1 y.2).1.1 = r3 at *
      generalize (putZ C y.1 y.2).1.2 = r4 at *
      generalize (putZ C2s y.1 y.2).2 = C3s at *
      generalize (putZ C2s y.1 y.2).1.1 = r5 at *
      generalize (putZ C2s y.1 y.2).1.2 = r6 at *
      generalize expo A2 lim S m = ex at *
      clear hC2
      obtain ⟨xz, xm, xs, xt⟩ := x
      obtain ⟨yz, ym, ys, yt⟩ := y
      simp only [rval] at C1 C2 C3 EX EY
      have SD := Lib.hid (both_below I.turns (low_turns I.turns) PB.out ((Below.refl _ wr).drew))
      obtain ⟨a0, a1, a2, a3⟩ := EX.out wr PB.out.bel
      go_wp2_with fail
      go_region_held3 (fun w' => w'.cell? ⟨b, o + k * 4, none⟩ = some (.int .i64 xz) ∧ w'.cell? ⟨b, o + k * 4 + 1, none⟩ = some (.int .i64 xm) ∧ w'.cell? ⟨b, o + k * 4 + 2, none⟩ = some (.int .i64 xs) ∧ w'.cell? ⟨b, o + k * 4 + 3, none⟩ = some (.int .i64 xt))
        (first | go_keep | exact ⟨b0, b1, b2, b3⟩ | exact ⟨a0, a1, a2, a3⟩)
        ((go_at_call 8; ((with_reducible refine (C1.out _ SD.out).mono ?_); rintro E w4 ⟨rfl, hs, _⟩; have P4 := Lib.hid hs; obtain ⟨b0, b1, b2, b3⟩ := EX.out w4 hs.bel)))
      all_goals
        clear hs SD a0 a1 a2 a3 b0 b1 b2 b3 PB C1
        obtain ⟨z0, z1, z2⟩ := HC.out w4 P4.out.bel
        go_wp2_with fail
        refine (CE.out _ P4.out).mono ?_
        rintro e w5 ⟨rfl, hb, _⟩
        have P5 := Lib.hid hb
        clear hb P4 z0 z1 z2 CE
        have iw1 : IntKind.i64.wrap ((un : Int) - 1) = (un : Int) - 1 := IntWalk.i64_in _ (by omega)
        have iw3 : IntKind.i64.wrap (j : Int) = (j : Int) := IntWalk.i64_in _ (by omega)
        have hj1 : (j : Int) < (un : Int) := by omega
        have SD := Lib.hid (both_below I.turns (low_turns I.turns) P5.out ((Below.refl _ w5).drew))
        obtain ⟨a0, a1, a2, a3⟩ := EY.out w5 P5.out.bel
        go_wp2_with fail
        go_region_held3 (fun w' => w'.cell? ⟨b, o + j * 4, none⟩ = some (.int .i64 yz) ∧ w'.cell? ⟨b, o + j * 4 + 1, none⟩ = some (.int .i64 ym) ∧ w'.cell? ⟨b, o + j * 4 + 2, none⟩ = some (.int .i64 ys) ∧ w'.cell? ⟨b, o + j * 4 + 3, none⟩ = some (.int .i64 yt))
          (first | go_keep | exact ⟨b0, b1, b2, b3⟩ | exact ⟨a0, a1, a2, a3⟩)
          ((go_at_call 8; ((with_reducible refine (C2.out _ SD.out).mono ?_); rintro E w6 ⟨rfl, hs, _⟩; have P6 := Lib.hid hs; obtain ⟨b0, b1, b2, b3⟩ := EY.out w6 hs.bel)))
        all_goals
          clear hs SD a0 a1 a2 a3 b0 b1 b2 b3 P5 C2
          have SD := Lib.hid (both_below I.turns (low_turns I.turns) P6.out ((Below.refl _ w6).drew))
          obtain ⟨a0, a1, a2, a3⟩ := EY.out w6 P6.out.bel
          go_wp2_with fail
          go_region_held3 (fun w' => w'.cell? ⟨b, o + j * 4, none⟩ = some (.int .i64 yz) ∧ w'.cell? ⟨b, o + j * 4 + 1, none⟩ = some (.int .i64 ym) ∧ w'.cell? ⟨b, o + j * 4 + 2, none⟩ = some (.int .i64 ys) ∧ w'.cell? ⟨b, o + j * 4 + 3, none⟩ = some (.int .i64 yt))
            (first | go_keep | exact ⟨b0, b1, b2, b3⟩ | exact ⟨a0, a1, a2, a3⟩)
            ((go_at_call 8; ((with_reducible refine (C3.out _ SD.out).mono ?_); rintro E w7 ⟨rfl, hs, _⟩; have P7 := Lib.hid hs; obtain ⟨b0, b1, b2, b3⟩ := EY.out w7 hs.bel)))
          all_goals
            clear hs SD a0 a1 a2 a3 b0 b1 b2 b3 P6 C3
            have S7 := Lib.hid (SN.out _ P7.out)
            clear P7 SN EX EY iw1 iw3 hj1 hji
            go_wp2
            go_roundw
            case rel => exact ⟨k + 1, by omega, by go_num, S7⟩
            case measure => simp [RowKit.intOf]; omega
    · obtain rfl : k = un := by omega
      have hT : l.take k = l := List.take_of_length_le (by rw [HLn.out]; exact Nat.le_refl _)
      have hBk : putsZ st (back l k) = putsZ st l := by
        rw [← HLn.out]
        exact back_same HN0.out l
      have GT := Lib.hid (HGk.out _ (KT.out k))
      have LT := Lib.hid (HLk.out (l.take k))
      rw [hT] at PB GT LT
      rw [hBk] at PB
      clear hT hBk HGk HLk HG0 HL0 HN0 KT KB
      generalize putsZ st l = T at *
      have CG := Lib.hid (fun X W (hW : Both I.DB (Low I.DB) w1 X h h' W (T) (T)) q j d U mm (hmm : I64 mm) (h1 : Rw 3 Sy.scells W q j U) (h2 : j ≤ 100000) (h3 : j ≤ d) (h4 : Sok U) (h5 : Off w1 X q j) => two_expo1 I (low_turns I.turns) hW GT.out LT.out lim q j d U mm hl hmm h1 h2 h3 h4 h5)
      have CE1 := Lib.hid (fun X W (hW : Both I.DB (Low I.DB) w1 X h h' W (T) (T)) => two_expo1 I (low_turns I.turns) hW GT.out LT.out lim p n c S m hl hm (HR.out.keep Sy.scells_len (HB.out W hW.bel)) (by omega) hnc hS (OF.out X))
      have CE2 := Lib.hid (fun W (hW : Both I.DB (Low I.DB) w1 (fun _ => False) h h' W (T) (T)) => two_expoL I I.turns hW GT.out LT.out lim p n c S m hl hm (HR.out.keep Sy.scells_len (HB.out W hW.bel)) (by omega) hnc hS (OF.out _))
      have CU := Lib.hid (fun W (hW : Below w1.heap.size w1 W) => Sy.r9upto_any p n c S m W (HR.out.keep Sy.scells_len (HB.out W hW)) (by omega))
      have CFR := Lib.hid (fun X W (hW : Both I.DB (Low I.DB) w1 X h h' W (T) (T)) mm (hmm : I64 mm) => two_expo1 I (low_turns I.turns) hW GT.out LT.out lim p n c S mm hl hmm (HR.out.keep Sy.scells_len (HB.out W hW.bel)) (by omega) hnc hS (OF.out X))
      have hb0 := expo_bd T lim S m
      have HMN := Lib.hid (fun k (hk : k ≤ m) => expo_min T lim S hk)
      have HCT := Lib.hid (expo_cut T lim S m)
      have HNL := Lib.hid (expo_nil (l := T) (lim := lim) (m := m) (S := S))
      have HUO := Lib.hid (uptoV_ok hS hm)
      have HLK := Lib.hid (uptoV_like S m).2
      have HUL := Lib.hid (show (Sy.uptoV S m).length ≤ 40 from Nat.le_trans (uptoV_len S m) (by rw [HR.out.1]; exact hn))
      generalize hex : expo T lim S m = ex at *
      have t1 : decide (ex < 0) = false := by simp; omega
      have t2 : decide (ex > 4611686018427387904) = false := decide_eq_false (by omega)
      have t3 : (ex != ex) = false := by simp
      have t4 : (ex == ex) = true := by simp
      have HBD := Lib.hid hb0
      have HXE := Lib.hid hex
      clear hb0 hex HU HUI HLn
      obtain ⟨z0, z1, z2⟩ := HC.out wr PB.out.bel
      go_wp2_with fail
      refine (CE1.out _ _ PB.out).mono ?_
      rintro e w4 ⟨rfl, hb, _⟩
      have P4 := Lib.hid hb
      clear hb PB z0 z1 z2
      obtain ⟨z0, z1, z2⟩ := HC.out w4 P4.out.bel
      go_wp2_with fail
      refine (CE2.out _ P4.out).mono ?_
      rintro e w5 ⟨rfl, hb, _⟩
      have P5 := Lib.hid hb
      clear hb P4 z0 z1 z2 CE2 CE1
      obtain ⟨z0, z1, z2⟩ := HC.out w5 P5.out.bel
      go_wp2_with fail
      refine (CU.out _ P5.out.bel).mono ?_
      intro e w6 he
      obtain ⟨v, rfl, ho, hb⟩ := he
      obtain ⟨uq, ud, rfl⟩ := own_slice ho
      generalize hU : Sy.uptoV S m = U at *
      obtain ⟨N, hN⟩ : ∃ N, U.length = N := ⟨_, rfl⟩
      have HUN := Lib.hid hN
      rw [hN] at ho
      rw [hN]
      have KO := Lib.hid ho
      have P6 := Lib.hid (both_more I.turns (low_turns I.turns) (Y := fun k => (Value.slice uq N ud).ownBlock = some k) P5.out hb (fun k hk => own_lt ho hk))
      have hNb : N ≤ 40 := by have := HUL.out; omega
      clear ho hb P5 z0 z1 z2 CU hN
      by_cases hz : N = 0
      · subst hz
        have e0 := HNL.out HUN.out
        subst e0
        go_wp2_with fail
        refine (AL.out _).mono ?_
        rintro e w7 ⟨rfl, hb⟩
        have BF := Lib.hid ((HB.out _ P6.out.bel).trans (hb.mono (HB.out _ P6.out.bel).size))
        clear hb
        go_wp2
        go_ret
        exact ⟨rfl, BF.out⟩
      obtain ⟨M, rfl⟩ : ∃ M, N = M + 1 := ⟨N - 1, by omega⟩
      obtain ⟨b, c2, e, hb1, hb3, _⟩ := own_some KO.out (by omega)
      cases e
      obtain ⟨x, hx⟩ : ∃ x, U[0]? = some x := ⟨_, List.getElem?_eq_getElem (by rw [HUN.out]; omega)⟩
      obtain ⟨y, hy⟩ : ∃ y, U[M]? = some y := ⟨_, List.getElem?_eq_getElem (by rw [HUN.out]; omega)⟩
      have hx1 := HLK.out x (List.mem_of_getElem? hx)
      have hy1 := HLK.out y (List.mem_of_getElem? hy)
      have hle : x.frm ≤ y.frm := Sy.rights_le (Sy.shut_right (hU ▸ (uptoV_like S m).1)) hx M y (by rw [Nat.zero_add]; exact hy)
      have e1 : w6.cell? ⟨b, 1, none⟩ = some (.int .i64 x.frm) := by simpa [Sy.scells] using row_cell Sy.scells_len KO.out HUN.out hx (i := 1) (by decide)
      have e2 : w6.cell? ⟨b, M * 3 + 2, none⟩ = some (.int .i64 y.to) := by simpa [Sy.scells] using row_cell Sy.scells_len KO.out HUN.out hy (i := 2) (by decide)
      generalize x.frm = xf at *
      generalize y.to = yt at *
      obtain ⟨d, hd⟩ : ∃ d, yt - xf = d := ⟨_, rfl⟩
      obtain ⟨d2, hd2⟩ : ∃ d2, d / 2 = d2 := ⟨_, rfl⟩
      obtain ⟨md, hmd⟩ : ∃ md, xf + d2 = md := ⟨_, rfl⟩
      have hM2 := hm.2
      have HMD := Lib.hid (show 0 ≤ md ∧ md ≤ m by omega)
      have i1 : IntKind.i64.wrap d = d := IntWalk.i64_in _ (by omega)
      have i2 : d.tdiv 2 = d2 := by rw [Int.tdiv_eq_ediv_of_nonneg (by omega)]; exact hd2
      have i3 : IntKind.i64.wrap d2 = d2 := IntWalk.i64_in _ (by omega)
      have i4 : IntKind.i64.wrap md = md := IntWalk.i64_in _ (by omega)
      have jw : IntKind.i64.wrap ((M : Int) + 1 - 1) = (M : Int) := by
        rw [show (M : Int) + 1 - 1 = (M : Int) by omega]
        exact IntWalk.i64_in _ (by omega)
      have jw2 : IntKind.i64.wrap (M : Int) = (M : Int) := IntWalk.i64_in _ (by omega)
      have hM1 : (M : Int) < (M : Int) + 1 := by omega
      have hz1 : ((M : Int) + 1 == 0) = false := by simp; omega
      clear hx hy hx1 hy1 hb1 hb3 hz hle hM2
      go_wp2_with fail
      have k1 := cell_regrown e1
      have k2 := cell_regrown e2
      clear e1 e2
      refine wp_region_quiet_below (by kernel_rfl) (by kernel_rfl) ?_
      repeat (go_big_quiet_step (fail))
      refine wpQuiet_nil ?_
      intro _ hw'
      obtain ⟨⟨dq, osq⟩, hw''⟩ := hw'
      subst hw''
      have hb7 := below_regrown w6 dq osq
      have P7 := Lib.hid (both_below I.turns (low_turns I.turns) P6.out hb7)
      have K7 := Lib.hid (own_turn KO.out (Turn.of_below (S := fun _ => False) hb7) (fun _ _ hf => hf))
      clear k1 k2 P6 KO hb7 i1 i2 i3 i4 jw jw2
      generalize Sort.grow (redrawn w6 dq) osq = w7 at *
      obtain ⟨i0, hi, iz0, iz1, iz2⟩ := info_parts infoT
      have hMi : (M : Int) ≤ 40 := by omega
      go_wp2_with fail
      go_loopw [17, 18] (fun v i wr => ∃ k : Nat, k ≤ M + 1 ∧ i = .int .i64 k ∧ (∃ q d, v = .slice q (restL md (U.take k)).length d) ∧ Hid (wr.ownsRow w7.heap.size 52 3 v (restL md (U.take k)).length ((restL md (U.take k)).flatMap Sy.scells)) ∧ Hid (Below w7.heap.size w7 wr)) (fun _ i _ => M + 1 - (RowKit.intOf i).toNat)
      case atStart => exact ⟨0, Nat.zero_le _, rfl, ⟨none, 0, rfl⟩, Lib.hid (World.ownsRow_nil _ _ _ _), Lib.hid (Below.refl _ _)⟩
      case round =>
        obtain ⟨k, hk, rfl, ⟨q2, d3, rfl⟩, RO, BR⟩ := hrel
        by_cases hlt : k < M + 1
        · have hk3 : (k : Int) < (M : Int) + 1 := by omega
          obtain ⟨t, ht⟩ : ∃ t, U[k]? = some t := ⟨_, List.getElem?_eq_getElem (by rw [HUN.out]; exact hlt)⟩
          obtain ⟨b', c', e, hb1, hb3, _⟩ := own_some K7.out (by omega)
          cases e
          have hcell : ∀ j, j < 3 → wr.cell? ⟨b, k * 3 + j, none⟩ = (Sy.scells t)[j]? := fun j hj => (BR.out.cell (p := ⟨b, k * 3 + j, none⟩) hb3).trans (row_cell Sy.scells_len K7.out HUN.out ht hj)
          have e0 : wr.cell? ⟨b, k * 3, none⟩ = some (.int .i64 t.zone) := hcell 0 (by decide)
          have e1 : wr.cell? ⟨b, k * 3 + 1, none⟩ = some (.int .i64 t.frm) := hcell 1 (by decide)
          have e2 : wr.cell? ⟨b, k * 3 + 2, none⟩ = some (.int .i64 t.to) := hcell 2 (by decide)
          have TK := Lib.hid (show restL md (U.take (k + 1)) = restL md (U.take k) ++ if max t.frm md < t.to then [{ t with frm := max t.frm md }] else [] by rw [List.take_add_one, ht]; exact rest_snoc md _ t)
          have hln := rest_len md (U.take k)
          have hln2 : (U.take k).length ≤ k := by rw [List.length_take]; omega
          have hln3 : (restL md (U.take k)).length ≤ 41 := by omega
          generalize hrk : restL md (U.take k) = R at *
          have MX := fun (ts : Array TypeId) (ty : TypeId) W => run_mx ts ty t.frm md W
          generalize hmx : max t.frm md = f2 at *
          obtain ⟨tz, tf, tt⟩ := t
          simp only at e0 e1 e2 TK MX
          clear ht hcell hb1 hb3 hln hln2 hmx hrk
          have X8 := Lib.hid (Lies.new wr 52 #[.int .i64 tz, .int .i64 tf, .int .i64 tt])
          have B8 := Lib.hid (BR.out.alloc BR.out.size (.cells #[.int .i64 tz, .int .i64 tf, .int .i64 tt] 52))
          have R8 := Lib.hid (RO.out.alloc (.cells #[.int .i64 tz, .int .i64 tf, .int .i64 tt] 52))
          have hrl := Lib.hid (show ∀ k, (Value.slice q2 R.length d3).ownBlock = some k → k < wr.heap.size from fun k hk => (own_lt RO.out hk).2)
          have hwz := Lib.hid BR.out.size
          go_upto_region 26 with fail
          clear e0 e1 e2
          generalize wr.alloc (.cells #[.int .i64 tz, .int .i64 tf, .int .i64 tt] 52) = w8 at *
          have X9 : Hid (Lies (w8.setCell ⟨wr.heap.size, 1, none⟩ (.int .i64 f2)) wr.heap.size 52 #[.int .i64 tz, .int .i64 f2, .int .i64 tt]) := Lib.hid (by simpa using X8.out.set_ 1 (.int .i64 f2))
          have B9 := Lib.hid (B8.out.setCell (p := ⟨wr.heap.size, 1, none⟩) hwz.out (.int .i64 f2))
          have R9 := Lib.hid (own_turn R8.out ((Turn.refl (fun k => k = wr.heap.size) w8).setCell (p := ⟨wr.heap.size, 1, none⟩) (.inl rfl) (.int .i64 f2)) (fun k hk e => by have := hrl.out k hk; omega))
          have y1 : w8.cell? ⟨wr.heap.size, 1, none⟩ = some (.int .i64 tf) := X8.out.cell 1
          have g1 := X8.out.frozen 1
          go_upto_region 27 with fail
          generalize w8.setCell ⟨wr.heap.size, 1, none⟩ (.int .i64 f2) = w9 at *
          clear y1 g1 X8 B8 R8 MX
          have y0 : w9.cell? ⟨wr.heap.size, 0, none⟩ = some (.int .i64 tz) := X9.out.cell 0
          have y1 : w9.cell? ⟨wr.heap.size, 1, none⟩ = some (.int .i64 f2) := X9.out.cell 1
          have y2 : w9.cell? ⟨wr.heap.size, 2, none⟩ = some (.int .i64 tt) := X9.out.cell 2
          by_cases hf : f2 < tt
          · have tf1 : decide (f2 < tt) = true := decide_eq_true hf
            have hsz := B9.out.size
            have TK2 := Lib.hid (show restL md (U.take (k + 1)) = R ++ [⟨tz, f2, tt⟩] by rw [TK.out, if_pos hf])
            go_wp2_with (at_builtin; refine wpList_append_own _ rfl _ _ 24 rfl w7.heap.size 52 i0 _ 3 24 Try.underlying24 hi iz0 iz1 iz2 rfl (by decide) _ _ _ rfl (R9.out.alloc _) ⟨w9.heap.size, 0, none⟩ 1 1 [.int .i64 tz, .int .i64 f2, .int .i64 tt] rfl rfl (World.news_of_block (cs := #[.int .i64 tz, .int .i64 f2, .int .i64 tt]) (t := 52) (fr := (0, 0)) (heap_alloc_new w9 _)) (by simp [Value.oneCell']) (by unfold maxLen; omega) (by omega) (by simp; omega) ?_; intro v10 w10 hown10 hg10 _; have B10 := Lib.hid ((B9.out.alloc hsz (.cells #[.int .i64 tz, .int .i64 f2, .int .i64 tt] 52)).grown hg10 (Nat.le_trans hsz (size_alloc _ _)) (fun i hi => (own_lt R9.out hi).1)))
            obtain ⟨q4, d4, rfl⟩ := own_slice hown10
            have O10 := Lib.hid hown10
            have TL := Lib.hid (show (restL md (U.take (k + 1))).length = R.length + 1 by rw [TK2.out, List.length_append]; rfl)
            clear hown10 hg10 y0 y1 y2 TK
            go_roundw
            case rel => exact ⟨k + 1, by omega, by go_num, ⟨_, _, by rw [TL.out]⟩, Lib.hid (by
              rw [TL.out, TK2.out, ← flat_snoc]
              exact O10.out), B10⟩
            case measure => simp [RowKit.intOf]; omega
          · have tf1 : decide (f2 < tt) = false := decide_eq_false hf
            have TK2 := Lib.hid (show restL md (U.take (k + 1)) = R by rw [TK.out, if_neg hf, List.append_nil])
            clear TK
            go_wp2
            go_roundw
            case rel => exact ⟨k + 1, by omega, by go_num, ⟨_, _, by rw [TK2.out]⟩, Lib.hid (by
              rw [TK2.out]
              exact R9.out), B9⟩
            case measure => simp [RowKit.intOf]; omega
        · obtain rfl : k = M + 1 := by omega
          have hT : U.take (M + 1) = U := List.take_of_length_le (by rw [HUN.out]; exact Nat.le_refl _)
          rw [hT] at RO ⊢
          have BU := Lib.hid (own_turn K7.out (Turn.of_below (S := fun _ => False) BR.out) (fun _ _ hf => hf))
          have PX := Lib.hid (both_more I.turns (low_turns I.turns) (Y := fun k => (Value.slice q2 (restL md U).length d3).ownBlock = some k) P7.out BR.out (fun k hk => own_lt RO.out hk))
          have hfr := HMN.out md HMD.out.2
          have hrl := Nat.le_trans (rest_len md U) (show U.length ≤ 41 by rw [HUN.out]; omega)
          have HRS := Lib.hid (show Sok (restL md U) from fun z hz => by
            obtain ⟨t, ht, e, _⟩ := rest_mem hz
            have h1 := HUO.out t ht
            subst e
            have := HMD.out
            have := hm
            unfold I64 at *
            refine ⟨h1.1, ?_, h1.2.2⟩
            simp only
            omega)
          have HMI := Lib.hid (show I64 md by have := HMD.out; have := hm; unfold I64 at *; omega)
          have CRS := Lib.hid (fun X W (hW : Both I.DB (Low I.DB) w1 X h h' W (T) (T)) (hrow : W.ownsRow w7.heap.size 52 3 (.slice q2 (restL md U).length d3) (restL md U).length ((restL md U).flatMap Sy.scells)) (hX : ∀ k, (Value.slice q2 (restL md U).length d3).ownBlock = some k → X k) => show Calls Try.prog 10 #[.pointer (some ⟨h, 0, none⟩), .int .i64 lim, .slice q2 (restL md U).length d3, .int .i64 m] W fun e w' => e = .returned (.int .i64 (expo T lim (restL md U) m)) ∧ Both I.DB (Low I.DB) w1 X h h' w' T T ∧ StillX X W w' from by
            obtain ⟨q', d', e, hcc, hrr⟩ := rw_own Sy.scells_len hrow
            injection e with e1 e2 e3
            subst e1 e3
            exact CG.out X W hW q2 _ d3 (restL md U) m hm hrr (by omega) hcc HRS.out (fun a ha h0 => .inr (hX _ (by
              obtain ⟨bb, cc, e, _⟩ := own_some hrow h0
              injection e with e _ _
              rw [ha] at e
              have ea := Option.some.inj e
              subst ea
              rw [ha]
              rfl))))
          have CCT := Lib.hid (fun X W (hW : Both I.DB (Low I.DB) w1 X h h' W (T) (T)) (hrow : W.ownsRow w5.heap.size 52 3 (.slice (some ⟨b, 0, none⟩) (M + 1) ud) (M + 1) (U.flatMap Sy.scells)) (hX : X b) => show Calls Try.prog 10 #[.pointer (some ⟨h, 0, none⟩), .int .i64 lim, .slice (some ⟨b, 0, none⟩) (M + 1) ud, .int .i64 m] W fun e w' => e = .returned (.int .i64 ex) ∧ Both I.DB (Low I.DB) w1 X h h' w' T T ∧ StillX X W w' from by
            have hrow2 := hrow
            rw [← HUN.out] at hrow2
            obtain ⟨q', d', e, hcc, hrr⟩ := rw_own Sy.scells_len hrow2
            injection e with e1 e2 e3
            subst e1 e3
            rw [HUN.out] at hrr hcc
            have := CG.out X W hW _ _ ud U m hm hrr (by omega) hcc HUO.out (fun a ha h0 => .inr (by rw [← Option.some.inj ha]; exact hX))
            rwa [HCT.out] at this)
          have HRL := Lib.hid hrl
          obtain ⟨hf1, hf2, hf3⟩ := hfr
          have HE3 := Lib.hid hf3
          have HFB := Lib.hid (And.intro (expo_bd T lim S md) (expo_bd T lim (restL md U) m))
          have CF := Lib.hid (CFR.out _ wr PX.out md HMI.out)
          generalize hfrt : expo T lim S md = fr at *
          generalize hbhd : expo T lim (restL md U) m = bh at *
          generalize restL md U = RS at *
          have t5 : decide (fr > ex) = false := decide_eq_false (by omega)
          have t6 : decide (bh > ex) = false := decide_eq_false (by omega)
          clear hf1 hf2 hf3 hT hrl hfrt hbhd K7 P7 BR CG HMN HCT
          obtain ⟨z0, z1, z2⟩ := HC.out wr PX.out.bel
          go_wp2_with fail
          refine CF.out.mono ?_
          rintro e w8 ⟨rfl, hb, hs⟩
          have P8 := Lib.hid hb
          obtain ⟨T1, ht1, hx1⟩ := hs
          have RO8 := Lib.hid (own_turn RO.out ht1 (fun k hk hT => hx1 k (.inr hk) hT))
          have BU8 := Lib.hid (own_turn BU.out ht1 (fun k hk hT => hx1 k (.inl (.inr hk)) hT))
          clear hb ht1 hx1 PX RO BU CF z0 z1 z2
          obtain ⟨z0, z1, z2⟩ := HC.out w8 P8.out.bel
          go_wp2_with fail
          refine (CRS.out _ w8 P8.out RO8.out (fun k hk => .inr hk)).mono ?_
          rintro e w9 ⟨rfl, hb, hs⟩
          have P9 := Lib.hid hb
          obtain ⟨T2, ht2, hx2⟩ := hs
          have BU9 := Lib.hid (own_turn BU8.out ht2 (fun k hk hT => hx2 k (.inl (.inr hk)) hT))
          clear hb ht2 hx2 P8 RO8 BU8 z0 z1 z2 CRS
          by_cases hlm : ex < 4611686018427387904
          · have t7 : decide (ex < 4611686018427387904) = true := decide_eq_true hlm
            have hsm := HE3.out hlm
            have iws : IntKind.i64.wrap (fr + bh) = ex := by
              rw [hsm]
              have := HBD.out
              exact IntWalk.i64_in _ (by omega)
            clear hsm
            go_wp2_with fail
            refine (AL.out _).mono ?_
            rintro e w10 ⟨rfl, hb⟩
            have P10 := Lib.hid (both_below I.turns (low_turns I.turns) P9.out hb)
            have BU10 := Lib.hid (own_turn BU9.out (Turn.of_below (S := fun _ => False) hb) (fun _ _ hf => hf))
            clear hb P9 BU9
            obtain ⟨z0, z1, z2⟩ := HC.out w10 P10.out.bel
            go_wp2_with fail
            refine (CCT.out _ w10 P10.out BU10.out (.inl (.inr rfl))).mono ?_
            rintro e w11 ⟨rfl, hb, _⟩
            have BF := Lib.hid (HB.out _ hb.bel)
            clear hb
            go_wp2
            go_ret
            exact ⟨rfl, BF.out⟩
          · have t7 : decide (ex < 4611686018427387904) = false := decide_eq_false hlm
            go_wp2_with fail
            refine (AL.out _).mono ?_
            rintro e w10 ⟨rfl, hb⟩
            have P10 := Lib.hid (both_below I.turns (low_turns I.turns) P9.out hb)
            have BU10 := Lib.hid (own_turn BU9.out (Turn.of_below (S := fun _ => False) hb) (fun _ _ hf => hf))
            clear hb P9 BU9
            obtain ⟨z0, z1, z2⟩ := HC.out w10 P10.out.bel
            go_wp2_with fail
            refine (CCT.out _ w10 P10.out BU10.out (.inl (.inr rfl))).mono ?_
            rintro e w11 ⟨rfl, hb, _⟩
            have BF := Lib.hid (HB.out _ hb.bel)
            clear hb
            go_wp2
            go_ret
            exact ⟨rfl, BF.out⟩
end Lg
end Go.Proofs.Ytehiclmkdpcplaa

namespace Go.Proofs.Ytehiclmkdpcplaa
open Go.RowKit

namespace Lg
open Se
theorem b63_out {n : Nat} (h : B63 n) : n ≤ 9223372036854775807 := h
theorem tells_all (I : Face) (v0 : Value) (x0 : Sl) (v1 : Value) (x1 : Sl) (v2 : Value) (x2 : Ak) (W : World) (h0 : InZ W v0 x0) (h1 : InU W v1 x1) (h2 : InK W v2 x2) :
    Calls Try.prog 3 #[v0, v1, v2] W fun e w' => e = .returned (.bool true) ∧ Below W.heap.size W w' := by
  obtain ⟨zp, zn, zc⟩ := x0
  obtain ⟨up, un, uc⟩ := x1
  obtain ⟨lim, p, n, c, m⟩ := x2
  obtain ⟨rfl, zb, Z, hZ, hzi⟩ := h0
  obtain ⟨rfl, huc, ub, l, hl, hui⟩ := h1
  obtain ⟨rfl, hlim, hm, hnc, nb, S, hS, hk⟩ := h2
  by_cases hb : 40 < n ∨ 40 < zn ∨ 40 < un
  · exact tells_long I zp up p zn zc un uc n c lim m S W hS (b63_out nb) (b63_out zb) (b63_out ub) hm hb
  · exact tells_short I zp up p zn zc un uc n c lim m Z l S W hS (by omega) hnc hZ (by omega) hzi hl (by omega) huc hui hk hlim hm
theorem minutes_all (I : Face) (v0 : Value) (x0 : Sl) (v1 : Value) (x1 : Sl) (v2 : Value) (x2 : Ak) (W : World) (h0 : InZ W v0 x0) (h1 : InU W v1 x1) (h2 : InK W v2 x2) :
    Calls Try.prog 4 #[v0, v1, v2] W fun e w' => e = .returned (.bool true) ∧ Below W.heap.size W w' := by
  obtain ⟨zp, zn, zc⟩ := x0
  obtain ⟨up, un, uc⟩ := x1
  obtain ⟨lim, p, n, c, m⟩ := x2
  obtain ⟨rfl, zb, Z, hZ, hzi⟩ := h0
  obtain ⟨rfl, huc, ub, l, hl, hui⟩ := h1
  obtain ⟨rfl, hlim, hm, hnc, nb, S, hS, hk⟩ := h2
  by_cases hb : 40 < n ∨ 40 < zn ∨ 40 < un
  · exact minutes_long I zp up p zn zc un uc n c lim m W (b63_out nb) (b63_out zb) (b63_out ub) hb
  · exact minutes_short I zp up p zn zc un uc n c lim m Z l S W hS (by omega) hnc hZ (by omega) hzi hl (by omega) huc hui hk hlim hm
end Lg
set_option maxRecDepth 100000 in
/-- A law's arguments, read: zones, puts, what is asked. -/
theorem lg_arg0_of {H : Type} {enc : TypeId × Value → H} {W : World} {base : Nat} {v : Value} {d : DataW H} {ps : List MemPlace} (hv : Value.okWide Try.prog W .any base 22 v) (h : DataW.Trod enc Try.prog W 0 (fun _ => true) true 22 v d ps) :
    ∃ x, Lg.InZ W v x := Lg.inZ_of hv h
set_option maxRecDepth 100000 in
theorem lg_arg1_of {H : Type} {enc : TypeId × Value → H} {W : World} {base : Nat} {v : Value} {d : DataW H} {ps : List MemPlace} (hv : Value.okWide Try.prog W .any base 23 v) (h : DataW.Trod enc Try.prog W 0 (fun _ => true) true 23 v d ps) :
    ∃ x, Lg.InU W v x := Lg.inU_of hv h
set_option maxRecDepth 100000 in
theorem lg_arg2_of {H : Type} {enc : TypeId × Value → H} {W : World} {base : Nat} {v : Value} {d : DataW H} {ps : List MemPlace} (hv : Value.okWide Try.prog W .any base 26 v) (h : DataW.Trod enc Try.prog W 0 (fun _ => true) true 26 v d ps) :
    ∃ x, Lg.InK W v x := Lg.inK_of hv h
end Go.Proofs.Ytehiclmkdpcplaa

namespace Go.Proofs.Ytehiclmkdpcplaa
open Go.RowKit Se

namespace Ex
/-- An index that is known up to a minute. -/
def Known (w : World) (B h h0 : Nat) (F0 : Nat → Prop) (v : Value) (m wo ga li : Int) (S : List Rd) (w' : World) : Prop :=
  ∃ v' P' kn', Idx w' B h h0 F0 v' P' kn' wo ga li S ∧ m ≤ kn' ∧ Turn (fun k => k = h ∨ v.ownBlock = some k) w w' ∧ ∀ k, v'.ownBlock = some k → v.ownBlock = some k ∨ w.heap.size ≤ k
theorem reach_known (B h h0 : Nat) (F0 : Nat → Prop) (v : Value) (P : List Pt) (kn wo ga li : Int) (S : List Rd) (m : Int) (w : World) (hp : Idx w B h h0 F0 v P kn wo ga li S) (hm : m ≤ kn) :
    Calls Try.prog 74 #[.pointer (some ⟨h, 0, none⟩), .int .i64 m] w fun e w' => (∃ u, e = .returned u) ∧ Below w.heap.size w w' := by
  have B0 := Lib.hid ((alloc_below w (.cells #[.pointer (some ⟨h, 0, none⟩)] 84)).alloc (by simp) (.cells #[.int .i64 m] 3))
  obtain ⟨w2, hw2⟩ : ∃ w2, (w.alloc (.cells #[.pointer (some ⟨h, 0, none⟩)] 84)).alloc (.cells #[.int .i64 m] 3) = w2 := ⟨_, rfl⟩
  have L2 : Lies w2 w.heap.size 84 #[.pointer (some ⟨h, 0, none⟩)] := by
    rw [← hw2]
    exact (Lies.new _ _ _).alloc _
  have L3 : Lies w2 (w.heap.size + 1) 3 #[.int .i64 m] := by
    rw [← hw2]
    have := Lies.new (w.alloc (.cells #[.pointer (some ⟨h, 0, none⟩)] 84)) 3 #[.int .i64 m]
    rwa [World.size_alloc] at this
  rw [hw2] at B0
  have c2 : w2.cell? ⟨w.heap.size, 0, none⟩ = some (.pointer (some ⟨h, 0, none⟩)) := L2.cell 0
  have c3 : w2.cell? ⟨w.heap.size + 1, 0, none⟩ = some (.int .i64 m) := L3.cell 0
  have HP := Lib.hid (hp.keep B0.out)
  have k3 : w2.cell? ⟨h, 3, none⟩ = some (.int .i64 kn) := HP.out.box.cell 3
  clear hp L2 L3
  go_enter Try.func74, Try.ntmps74
  go_wp2
  clear hw2
  go_quiet (fail)
  go_wp2
  refine bodyPost_ret (results_none rfl _ _ _) rfl ?_
  exact ⟨⟨_, rfl⟩, below_drewN B0.out nq⟩
theorem frm_bd {f : Int → Int} (hf : Mild f) {P : List Pt} {kn m : Int} (h : Rec f P kn) {j : Nat} {x : Pt} (hx : P[j]? = some x) (hm : m ≤ 1048576) (hl : x.frm < m) :
    0 ≤ x.bef ∧ x.bef ≤ 4611686018427387904 ∧ 0 ≤ x.exc ∧ x.exc ≤ 2199023255552 ∧ 0 ≤ m - x.frm ∧ m - x.frm ≤ 1048576 := by
  have h1 := h.inn j x hx
  have h2 := h.bef j x hx
  have h3 := run_top hf 0 x.frm.toNat (by have := h.hi; omega)
  have h4 : f x.frm = x.exc := h.exc j x hx x.frm (Int.le_refl _) h1.2 (fun _ _ _ hh => hh)
  have h5 := hf x.frm
  omega
theorem Known.keep {w w1 w2 : World} {B h h0 : Nat} {F0 : Nat → Prop} {v : Value} {m wo ga li : Int} {S : List Rd} (hk : Known w B h h0 F0 v m wo ga li S w1) (hb : Below w1.heap.size w1 w2) : Known w B h h0 F0 v m wo ga li S w2 := by
  obtain ⟨v', P', kn', h1, h2, h3, h4⟩ := hk
  exact ⟨v', P', kn', h1.keep hb, h2, h3.trans (Turn.of_below (S := fun _ => False) hb) (fun _ hf => hf.elim), h4⟩
set_option maxRecDepth 100000 in
set_option maxHeartbeats 4000000 in
theorem upto_of (B h h0 : Nat) (F0 : Nat → Prop) (wo ga li : Int) (S : List Rd) (m : Int) (w : World) (X : World → Prop) (hf : Mild (exm wo ga li S)) (hm0 : 0 ≤ m) (hm1 : m ≤ 1048576)
    (hX : ∀ w1, X w1 → ∃ v P kn, Idx w1 B h h0 F0 v P kn wo ga li S ∧ m ≤ kn) (hXk : ∀ w1 w2, X w1 → Below w1.heap.size w1 w2 → X w2)
    (hr : Calls Try.prog 74 #[.pointer (some ⟨h, 0, none⟩), .int .i64 m] w fun e w' => (∃ u, e = .returned u) ∧ X w') :
    Calls Try.prog 66 #[.pointer (some ⟨h, 0, none⟩), .int .i64 m] w fun e w' => e = .returned (.int .i64 (run (exm wo ga li S) 0 m.toNat)) ∧ X w' := by
  have R := Lib.hid hr
  have HF := Lib.hid hf
  have HX := Lib.hid hX
  have HXK := Lib.hid hXk
  generalize hfe : exm wo ga li S = f at *
  have HE := Lib.hid hfe
  clear hr hf hfe hX hXk
  go_enter Try.func66, Try.ntmps66
  go_wp2_with fail
  refine R.out.mono ?_
  rintro e w1 ⟨⟨u, rfl⟩, hk⟩
  have K1 := Lib.hid hk
  obtain ⟨v1, P1, kn1, h1, h2⟩ := HX.out _ hk
  have A := Lib.hid (ahead_any B h h0 F0 v1 P1 kn1 wo ga li S m w1 h1)
  have I1 := Lib.hid h1
  have M1 := Lib.hid h2
  clear R h1 h2 hk
  go_wp2_with fail
  refine A.out.mono ?_
  rintro e w2 ⟨n, rfl, ha, hb⟩
  have A2 := Lib.hid ha
  have K2 := Lib.hid (HXK.out _ _ K1.out hb)
  have I2 := Lib.hid (I1.out.keep hb)
  clear ha hb A K1 I1
  by_cases hn : n = 0
  · subst hn
    have E := Lib.hid (show run f 0 m.toNat = 0 from by rw [rec_zero I2.out.rk A2.out hm0 M1.out]; rfl)
    go_wp2
    go_ret
    exact ⟨by rw [E.out]; rfl, K2.out⟩
  · have RK := Lib.hid (show Rec f P1 kn1 from HE.out ▸ I2.out.rk)
    have hnl := A2.out.1
    obtain ⟨x, hx⟩ : ∃ x, P1[n - 1]? = some x := ⟨_, List.getElem?_eq_getElem (by omega)⟩
    obtain ⟨s1, s2, s3⟩ := rec_sum RK.out A2.out (by omega) M1.out hx
    obtain ⟨b1, b2, b3, b4, b5, b6⟩ := frm_bd HF.out RK.out hx hm1 s2
    have E := Lib.hid ((show St.St.cap (x.bef + x.exc * (m - x.frm)) = run f 0 m.toNat from by
      have := run_top HF.out 0 m.toNat (by omega)
      rw [s3, St.St.cap_mid (by omega)]))
    obtain ⟨q, d, rfl, hd, hA⟩ := rw_own pcells_len I2.out.row
    have c2 : w2.cell? ⟨h, 2, none⟩ = some (.slice q P1.length d) := I2.out.box.cell 2
    obtain ⟨b, o, rfl, hcl⟩ := hA.2 (by omega)
    obtain ⟨j, hj⟩ : ∃ j : Nat, n - 1 = j := ⟨_, rfl⟩
    rw [hj] at hx
    have e0 : w2.cell? ⟨b, o + j * 3, none⟩ = some (.int .i64 x.frm) := hcl j x hx 0 (by decide)
    have e1 : w2.cell? ⟨b, o + j * 3 + 1, none⟩ = some (.int .i64 x.bef) := hcl j x hx 1 (by decide)
    have e2 : w2.cell? ⟨b, o + j * 3 + 2, none⟩ = some (.int .i64 x.exc) := hcl j x hx 2 (by decide)
    have q1 : (n : Int) - 1 = (j : Int) := by omega
    have j0 : (j : Int) < (P1.length : Int) := by omega
    have j1 : (j : Int) < (d : Int) := by omega
    have n0 : ((n : Int) == 0) = false := by simp; omega
    have hnb : (n : Int) ≤ 1048576 := by
      have := rec_len RK.out
      omega
    have hn1 : (1 : Int) ≤ (n : Int) := by omega
    obtain ⟨x0, x1, x2⟩ := x
    simp only at s1 s2 b1 b2 b3 b4 b5 b6 E e0 e1 e2
    have L := Lib.hid (fun W => longer_any x1 x2 (m - x0) W b1 b2 b3 b4 b5 b6)
    have B3 := Lib.hid (alloc_below w2 (.cells #[.int .i64 x0, .int .i64 x1, .int .i64 x2] 109))
    clear hcl hx hA s3 hj hnl hd I2 RK A2 M1 b1 b2 b3 b4
    go_wp2_with fail
    refine (L.out _).mono ?_
    rintro e w3 ⟨rfl, hb⟩
    have B4 := Lib.hid (B3.out.trans (hb.mono B3.out.size))
    clear hb
    go_wp2
    go_ret
    exact ⟨by rw [← E.out]; rfl, HXK.out _ _ K2.out B4.out⟩
theorem upto_known (B h h0 : Nat) (F0 : Nat → Prop) (v : Value) (P : List Pt) (kn wo ga li : Int) (S : List Rd) (m : Int) (w : World) (hp : Idx w B h h0 F0 v P kn wo ga li S) (hf : Mild (exm wo ga li S)) (hm0 : 0 ≤ m) (hm : m ≤ kn) :
    Calls Try.prog 66 #[.pointer (some ⟨h, 0, none⟩), .int .i64 m] w fun e w' => e = .returned (.int .i64 (run (exm wo ga li S) 0 m.toNat)) ∧ Below w.heap.size w w' :=
  upto_of B h h0 F0 wo ga li S m w (fun w' => Below w.heap.size w w') hf hm0 (Int.le_trans hm hp.rk.hi) (fun _ hb => ⟨v, P, kn, hp.keep hb, hm⟩) (fun _ _ h1 h2 => h1.trans (h2.mono h1.size)) (reach_known B h h0 F0 v P kn wo ga li S m w hp hm)
end Ex
end Go.Proofs.Ytehiclmkdpcplaa

namespace Go.Proofs.Ytehiclmkdpcplaa
open Go.RowKit Se
attribute [local go_sem] Oper.semAt_some

namespace Ex
theorem noGoto_on {Q : Exit → Act → World → Prop} {a : Act} {w : World} : Exit.noGoto Q .normal a w = Q .normal a w := rfl
abbrev rcs (x : Rn) : Array Value := #[.int .i64 x.1.1, .int .i64 x.1.2]
/-- What a round keeps: blocks but those of a set, and new ones. -/
def Kept (T : Nat → Prop) (n₀ : Nat) (A B : World) : Prop := Turn (fun k => T k ∨ n₀ ≤ k) A B
theorem kept_t {T : Nat → Prop} {n₀ : Nat} {A B C : World} (h : Kept T n₀ A B) (k : Kept T n₀ B C) : Kept T n₀ A C := Turn.trans h k (fun _ hi => .inl hi)
theorem kept_b {T : Nat → Prop} {n₀ : Nat} (W : World) (l : Nat) (o o' : Obj) (hl : n₀ ≤ l) (_ : W.heap[l]? = some o) (_ : o.isCells = false) (_ : o.isWalk = false) : Kept T n₀ W (W.putObj l o') :=
  (Turn.refl _ W).grown (grownBy_putObj' W l o') (fun k e => by cases e; exact .inl (.inr hl))
theorem three_made (w : World) (v1 v2 v3 : Value) (t1 t2 t3 : TypeId) : Below w.heap.size w (((w.alloc (.cells #[v1] t1)).alloc (.cells #[v2] t2)).alloc (.cells #[v3] t3)) ∧
    Lies (((w.alloc (.cells #[v1] t1)).alloc (.cells #[v2] t2)).alloc (.cells #[v3] t3)) w.heap.size t1 #[v1] ∧ Lies (((w.alloc (.cells #[v1] t1)).alloc (.cells #[v2] t2)).alloc (.cells #[v3] t3)) (w.heap.size + 1) t2 #[v2] ∧
    Lies (((w.alloc (.cells #[v1] t1)).alloc (.cells #[v2] t2)).alloc (.cells #[v3] t3)) (w.heap.size + 1 + 1) t3 #[v3] ∧ (((w.alloc (.cells #[v1] t1)).alloc (.cells #[v2] t2)).alloc (.cells #[v3] t3)).heap.size = w.heap.size + 3 := by
  have a2 := Lies.new (w.alloc (.cells #[v1] t1)) t2 #[v2]
  rw [World.size_alloc] at a2
  have a3 := Lies.new ((w.alloc (.cells #[v1] t1)).alloc (.cells #[v2] t2)) t3 #[v3]
  rw [World.size_alloc, World.size_alloc] at a3
  exact ⟨((alloc_below w _).alloc (by simp) _).alloc (by simp; omega) _, ((Lies.new w _ _).alloc _).alloc _, a2.alloc _, a3, by simp⟩
theorem runs_make (a b : Int) (h : Nat) (w : World) : Calls Try.prog 79 #[.pointer (some ⟨h, 0, none⟩), .int .i64 a, .int .i64 b] w fun e w' =>
    e = .returned (.func (.func 83) #[] #[.pointer (some ⟨w.heap.size + 1, 0, none⟩), .pointer (some ⟨w.heap.size + 1 + 1, 0, none⟩), .pointer (some ⟨w.heap.size, 0, none⟩)]) ∧
    Below w.heap.size w w' ∧ Lies w' w.heap.size 69 #[.pointer (some ⟨h, 0, none⟩)] ∧ Lies w' (w.heap.size + 1) 3 #[.int .i64 a] ∧ Lies w' (w.heap.size + 1 + 1) 3 #[.int .i64 b] ∧ w'.heap.size = w.heap.size + 3 := by
  have T := Lib.hid (three_made w (.pointer (some ⟨h, 0, none⟩)) (.int .i64 a) (.int .i64 b) 69 3 3)
  go_enter Try.func79, Try.ntmps79
  go_wp2
  go_ret
  exact ⟨rfl, T.out⟩
set_option maxRecDepth 100000 in
set_option maxHeartbeats 4000000 in
theorem runs_in (n : Nat) (hn : 1 ≤ n) (T : Nat → Prop) (n₀ l B h b1 b2 b3 : Nat) (F : Nat → Prop) (wo ga lim a b : Int) (S : List Rd) (J Jx : List Rn → World → Prop) (w : World)
    (hp : PSF w B h F wo ga S) (hs : Sorted S) (hr : ∀ x ∈ S, rightB x = true) (hm : mayB wo ga = true) (hL : S.length ≤ 1000)
    (ha : 0 ≤ a) (ha' : a ≤ 1048576) (hb : 0 ≤ b) (hb' : b ≤ 1048576) (c1 : Lies w b1 3 #[.int .i64 a]) (c2 : Lies w b2 3 #[.int .i64 b]) (c3 : Lies w b3 69 #[.pointer (some ⟨h, 0, none⟩)])
    (hT : ∀ k, T k → ¬ F k ∧ k ≠ b1 ∧ k ≠ b2 ∧ k ≠ b3) (hn0 : ∀ k, F k ∨ k = b1 ∨ k = b2 ∨ k = b3 → k < n₀)
    (hJ : AbidesFrom w.heap.size J)
    (hY : ∀ pre x W1, J pre W1 → pre.length < 1048576 → YieldAt Fence.wide (n - 1) Try.prog l (rcs x) W1 fun e W' =>
      (e = .returned (.bool true) ∧ J (pre ++ [x]) W' ∧ Kept T n₀ W1 W') ∨ (e = .returned (.bool false) ∧ Jx (pre ++ [x]) W'))
    (h0 : J [] w) :
    CallsIn Fence.wide n Try.prog 83 #[.func (.yield l) #[] #[], .pointer (some ⟨b1, 0, none⟩), .pointer (some ⟨b2, 0, none⟩), .pointer (some ⟨b3, 0, none⟩)] w fun e W' =>
      (∃ v, e = .returned v) ∧ ((∃ xs, Chn (exm wo ga lim S) a xs (max a b) ∧ J xs W') ∨ (∃ pre, (∃ c, Chn (exm wo ga lim S) a pre c ∧ c ≤ 1048576) ∧ Jx pre W')) := by
  have NX := Lib.hid (fun W m (hq : PSF W B h F wo ga S) (m0 : -9223372036854775808 ≤ m) (m1 : m ≤ 9223372036854775807) => face.nextAt B h F wo ga S m W hq hs hr hm hL m0 m1)
  have HR : ∀ x ∈ S, 0 ≤ x.min := fun x hx => (right_of (hr x hx)).2.2.1
  have NG := Lib.hid (fun m (hx : 0 ≤ next ga S m) => next_gt (ga := ga) (m := m) HR hx)
  have AS := Lib.hid (fun m e (hx : next ga S m < 0 ∨ e ≤ next ga S m) t (t1 : m ≤ t) (t2 : t < e) => show exm wo ga lim S t = exm wo ga lim S m by
    unfold exm
    have := air_same (wo := wo) (ga := ga) (m := m) (f := t - m) (l := S) HR (by omega) (by omega)
    rw [show m + (t - m) = t by omega] at this
    rw [this])
  generalize exm wo ga lim S = f at *
  have HT := Lib.hid (fun k (hk : F k ∨ k = b1 ∨ k = b2 ∨ k = b3) (h : T k ∨ n₀ ≤ k) => show False by
    have h1 := hn0 k hk
    rcases h with h | h
    · have := hT k h
      rcases hk with hk | hk | hk | hk
      · exact this.1 hk
      · exact this.2.1 hk
      · exact this.2.2.1 hk
      · exact this.2.2.2 hk
    · omega)
  have HJ := Lib.hid (fun pre {A B : World} (hw : w.heap.size ≤ A.heap.size) (h : J pre A) (hb : Below A.heap.size A B) => hJ pre A B none h (grown_of_below hb) (fun _ e => by cases e))
  have HY := Lib.hid hY
  have HP := Lib.hid hp
  have C1 := Lib.hid c1
  have C2 := Lib.hid c2
  have C3 := Lib.hid c3
  have x1 : w.cell? ⟨b1, 0, none⟩ = some (.int .i64 a) := c1.cell 0
  have H0 := Lib.hid h0
  clear hp hs hr hm hL hT hn0 hJ hY h0 HR c1 c2 c3
  refine callsIn_of_wp Try.func83 rfl trivial ?_ rfl
  simp only [Try.ntmps83, List.size_toArray, List.length_cons, List.length_nil, Nat.reduceAdd, Nat.reduceSub, Array.replicate_succ, Array.replicate_zero, List.push_toArray, List.append_toArray, List.nil_append, List.cons_append]
  refine wpIn_wide.2 (wp_scope_straight (wpIn_wide (n := n).1 ?_))
  gi_wp2
  refine wpIn_label ?_
  gi_wp2
  clear x1
  gi_loopw [5] (fun st wr => ∃ (pre : List Rn) (c : Int), st = .int .i64 c ∧ 0 ≤ c ∧ c ≤ 1048576 ∧ Hid (c ≤ max a b) ∧ Hid (Chn f a pre c) ∧ Hid (Kept T n₀ w wr) ∧ Hid (J pre wr)) (fun st _ => (1048576 - RowKit.intOf st).toNat)
  case atStart => exact ⟨[], a, rfl, ha, by omega, Lib.hid (by omega), Lib.hid rfl, Lib.hid (Turn.refl _ _), H0⟩
  case round =>
    clear H0
    obtain ⟨pre, c, rfl, hc0, hc1, HM, HC, HK, HI⟩ := hrel
    have y2 : wr.cell? ⟨b2, 0, none⟩ = some (.int .i64 b) := (C2.out.turn HK.out (fun h => HT.out b2 (.inr (.inr (.inl rfl))) h)).cell 0
    have y3 : wr.cell? ⟨b3, 0, none⟩ = some (.pointer (some ⟨h, 0, none⟩)) := (C3.out.turn HK.out (fun h => HT.out b3 (.inr (.inr (.inr rfl))) h)).cell 0
    have HPr := Lib.hid (face.turn HP.out HK.out (fun k hk h => HT.out k (.inl hk) h))
    have HS := Lib.hid (show w.heap.size ≤ wr.heap.size from HK.out.size)
    by_cases hlt : c < b
    · have NC := Lib.hid (NX.out wr c HPr.out (by omega) (by omega))
      have hlen : pre.length < 1048576 := by
        have := chn_len HC.out
        omega
      have HN := Lib.hid (NG.out c)
      have HA := Lib.hid (fun e he => AS.out c e he)
      obtain ⟨x, hx⟩ : ∃ x, next ga S c = x := ⟨_, rfl⟩
      rw [hx] at NC HN HA
      clear hx NX NG AS HPr
      gi_wp2_with fail
      refine ⟨trivial, (callsIn_wide.2 NC.out).mono ?_⟩
      rintro e w2 ⟨rfl, hb2⟩
      have HJ2 := Lib.hid (HJ.out pre HS.out HI.out hb2)
      have HK2 := Lib.hid (kept_t HK.out (Turn.of_below hb2))
      have z2 : w2.cell? ⟨b2, 0, none⟩ = some (.int .i64 b) := (hb2.cell (p := ⟨b2, 0, none⟩) (World.block_lt_of_cell? wr _ y2)).trans y2
      clear y2 y3 hb2 NC HI HK HS
      by_cases hend : x < 0 ∨ b ≤ x
      · obtain ⟨fn, tmps, assign, body, hy, hR⟩ := HY.out pre ⟨(c, b), hc0, hlt, hb'⟩ w2 HJ2.out hlen
        dsimp only [rcs] at hy
        have HX := Lib.hid (chn_snoc (x := ⟨(c, b), hc0, hlt, hb'⟩) HC.out rfl (fun t t1 t2 => HA.out b hend t t1 t2))
        have HE := Lib.hid (show max a b = b from by have := chn_le HC.out; omega)
        have HR := Lib.hid hR
        clear hR HN HA HC HJ2 HY HM
        have hge : ¬ x < 0 → b ≤ x := fun h => hend.resolve_left h
        clear hend
        by_cases hneg : x < 0
        all_goals
          try replace hge := hge hneg
          gi_wp2
          refine HR.out.mono ?_
          rintro e W3 (⟨rfl, hJ3, hk3⟩ | ⟨rfl, hJx3⟩)
          · have H3 := Lib.hid hJ3
            clear hJ3 hk3
            gi_wp2
            try rw [noGoto_on]
            go_end0
            exact ⟨⟨_, rfl⟩, .inl ⟨_, by rw [HE.out]; exact HX.out, H3.out⟩⟩
          · have H3 := Lib.hid hJx3
            clear hJx3
            gi_wp2
            try rw [noGoto_on]
            go_end0
            exact ⟨⟨_, rfl⟩, .inr ⟨_, ⟨b, HX.out, hb'⟩, H3.out⟩⟩
      · have hx0 : ¬ x < 0 := fun h => hend (.inl h)
        have hxb : x < b := by
          have : ¬ b ≤ x := fun h => hend (.inr h)
          omega
        have hcx := HN.out (by omega)
        obtain ⟨fn, tmps, assign, body, hy, hR⟩ := HY.out pre ⟨(c, x), hc0, hcx, by omega⟩ w2 HJ2.out hlen
        dsimp only [rcs] at hy
        have HX := Lib.hid (chn_snoc (x := ⟨(c, x), hc0, hcx, by omega⟩) HC.out rfl (fun t t1 t2 => HA.out x (.inr (Int.le_refl _)) t t1 t2))
        have HE := Lib.hid (show x ≤ max a b by omega)
        have HR := Lib.hid hR
        clear hR HN HA HC HJ2 HY HM
        have hx1 : 0 ≤ x := by omega
        gi_wp2
        refine HR.out.mono ?_
        rintro e W3 (⟨rfl, hJ3, hk3⟩ | ⟨rfl, hJx3⟩)
        · have H3 := Lib.hid hJ3
          have H4 := Lib.hid (kept_t HK2.out hk3)
          clear hJ3 hk3 HK2 HR
          gi_wp2
          go_roundw
          case rel => exact ⟨_, x, rfl, hx1, by omega, HE, HX, H4, H3⟩
          case measure => simp [RowKit.intOf]; omega
        · have H3 := Lib.hid hJx3
          clear hJx3
          gi_wp2
          try rw [noGoto_on]
          go_end0
          exact ⟨⟨_, rfl⟩, .inr ⟨_, ⟨x, HX.out, by omega⟩, H3.out⟩⟩
    · have HE := Lib.hid (show max a b = c from by have := HM.out; have := chn_le HC.out; omega)
      clear NX NG AS HPr HM HS
      gi_wp2
      try rw [noGoto_on]
      go_end0
      exact ⟨⟨_, rfl⟩, .inl ⟨_, by rw [HE.out]; exact HC.out, HI.out⟩⟩
theorem runs_stops (n : Nat) (hn : 1 ≤ n) (T : Nat → Prop) (B h b1 b2 b3 : Nat) (F : Nat → Prop) (wo ga lim a b : Int) (S : List Rd) (w : World)
    (hp : PSF w B h F wo ga S) (hs : Sorted S) (hr : ∀ x ∈ S, rightB x = true) (hm : mayB wo ga = true) (hL : S.length ≤ 1000)
    (ha : 0 ≤ a) (ha' : a ≤ 1048576) (hb : 0 ≤ b) (hb' : b ≤ 1048576) (c1 : Lies w b1 3 #[.int .i64 a]) (c2 : Lies w b2 3 #[.int .i64 b]) (c3 : Lies w b3 69 #[.pointer (some ⟨h, 0, none⟩)])
    (hT : ∀ k, T k → ¬ F k ∧ k ≠ b1 ∧ k ≠ b2 ∧ k ≠ b3) :
    SeqStopsK Fence.wide n Try.prog 83 #[.pointer (some ⟨b1, 0, none⟩), .pointer (some ⟨b2, 0, none⟩), .pointer (some ⟨b3, 0, none⟩)] rcs (Kept T w.heap.size)
      (fun xs => Chn (exm wo ga lim S) a xs (max a b)) (fun pre => ∃ c, Chn (exm wo ga lim S) a pre c ∧ c ≤ 1048576) 1048576 w := fun l J Jx W hW hJ _ hY h0 =>
  runs_in n hn T w.heap.size l B h b1 b2 b3 F wo ga lim a b S J Jx W (face.keep hp hW) hs hr hm hL ha ha' hb hb' (c1.below hW c1.lt) (c2.below hW c2.lt) (c3.below hW c3.lt) hT
    (fun k hk => by
      rcases hk with hk | rfl | rfl | rfl
      · exact (face.foot hp hk).2
      · exact c1.lt
      · exact c2.lt
      · exact c3.lt) hJ hY h0
end Ex
end Go.Proofs.Ytehiclmkdpcplaa

namespace Go.Proofs.Ytehiclmkdpcplaa
open Go.RowKit Se
attribute [local go_sem] Oper.semAt_some

namespace Ex
theorem tot_cou {wo ga lim : Int} {S : List Rd} {a b : Int} : tot wo ga lim S a b = run (exm wo ga lim S) (cou a) (max (cou a) (cou b) - cou a).toNat := by
  unfold tot
  by_cases h : a ≤ 1048576
  · rw [show max a 0 = cou a by unfold cou; omega, show (min b 1048576 - cou a).toNat = (max (cou a) (cou b) - cou a).toNat by unfold cou; omega]
    refine run_congr fun j hj => exm_exc ?_ ?_
    · have := cou_bd a
      omega
    · have := cou_bd a
      have := cou_bd b
      omega
  · rw [show (min b 1048576 - max a 0).toNat = 0 by omega, show (max (cou a) (cou b) - cou a).toNat = 0 by unfold cou; omega]
    rfl
theorem counted_still (m : Int) (w : World) : Calls Try.prog 67 #[.int .i64 m] w fun e w' => e = .returned (.int .i64 (cou m)) ∧ w' = w := (counted_any m w).mono fun _ _ h => ⟨h.1, h.2.symm⟩
end Ex
end Go.Proofs.Ytehiclmkdpcplaa
