/- The walk of the law that holds a writer against the document's answer (OctetsWrites). -/
import Derived.Test.YtakkkdmbghdhgaaW10
import Derived.Test.YtakkkdmbghdhgaaW4
import Derived.Test.YtakkkdmbghdhgaaSame
import Derived.Deep.RegionHeld3
namespace Go.Proofs.Ytakkkdmbghdhgaa
open Go.RowKit

/-- Both writers, side by side: nothing of the one is the other's, nothing that was there has turned. -/
def Both (W wr : World) (g g2 : Nat) (s s2 : Option (List Nat)) : Prop :=
  ∃ v v2, PW wr W.heap.size g v s ∧ RW wr W.heap.size g2 v2 s2 ∧ (∀ k, Foot g v k → ¬ Foot g2 v2 k) ∧ Below W.heap.size W wr
theorem both_start (W : World) : Both W ((W.alloc (.cells #[.slice none 0 0, .int .i64 0] 55)).alloc (.cells #[.slice none 0 0, .int .i64 0] 31)) W.heap.size (W.heap.size + 1) (some []) (some []) := by
  have hp := (new_pw W W.heap.size (Nat.le_refl _)).below (alloc_below _ (.cells #[.slice none 0 0, .int .i64 0] 31))
  have hz : (W.alloc (.cells #[.slice none 0 0, .int .i64 0] 55)).heap.size = W.heap.size + 1 := by simp
  refine ⟨_, .slice none 0 0, hp, ⟨by omega, ?_, ⟨rfl, .inl ⟨rfl, rfl⟩⟩, by simp⟩, ?_, ((Below.refl _ W).alloc (Nat.le_refl _) _).alloc (by simp) _⟩
  · have := Lies.new (W.alloc (.cells #[.slice none 0 0, .int .i64 0] 55)) 31 #[.slice none 0 0, .int .i64 0]
    rwa [hz] at this
  · rintro k (rfl | h) (h2 | h2)
    · omega
    · simp [Value.ownBlock] at h2
    · simp [Value.ownBlock] at h
    · simp [Value.ownBlock] at h
theorem both_left {W wr w1 : World} {g g2 : Nat} {v v2 : Value} {s s1 s2 : Option (List Nat)} (h1 : PW wr W.heap.size g v s) (h2 : RW wr W.heap.size g2 v2 s2) (hd : ∀ k, Foot g v k → ¬ Foot g2 v2 k) (hb : Below W.heap.size W wr) (h : Wrote wr W.heap.size g v s1 w1) :
    Both W w1 g g2 s1 s2 := by
  obtain ⟨v', hp, ht, hv⟩ := h
  refine ⟨v', v2, hp, h2.turn ht (fun k hk hf => hd k hf hk), fun k hk hf => ?_, ht.below hb hb.size (fun i hi => (h1.foot hi).1)⟩
  rcases hk with rfl | hk
  · exact hd k (.inl rfl) hf
  · rcases hv k hk with h | h
    · exact hd k (.inr h) hf
    · have := (h2.foot hf).2
      omega
theorem both_right {W wr w1 : World} {g g2 : Nat} {v v2 : Value} {s s1 s2 : Option (List Nat)} (h1 : PW wr W.heap.size g v s) (h2 : RW wr W.heap.size g2 v2 s2) (hd : ∀ k, Foot g v k → ¬ Foot g2 v2 k) (hb : Below W.heap.size W wr) (h : RWrote wr W.heap.size g2 v2 s1 w1) :
    Both W w1 g g2 s s1 := by
  obtain ⟨v', hp, ht, hv⟩ := h
  refine ⟨v, v', h1.turn ht hd, hp, fun k hk hf => ?_, ht.below hb hb.size (fun i hi => (h2.foot hi).1)⟩
  rcases hf with rfl | hf
  · exact hd k hk (.inl rfl)
  · rcases hv k hf with h | h
    · exact hd k hk (.inr h)
    · have := (h1.foot hk).2
      omega
theorem src_far2 {W wr : World} {g : Nat} {v : Value} {s : Option (List Nat)} {q : Option Addr} {n : Nat} {l : List Nat} (h : RW wr W.heap.size g v s) (hA : At W q n l) (hn : 0 < n) : ∀ a, q = some a → ¬ Foot g v a.block := by
  intro a ha hf
  obtain ⟨b, o, e, hj⟩ := hA.2.2 hn
  rw [ha] at e
  injection e with e
  subst e
  have h1 := World.block_lt_of_cell? W _ (hj 0 hn)
  have h2 := (h.foot hf).1
  simp only at h1 h2
  omega
/-- No bytes: wherever they lie. -/
theorem at_zero (w : World) (q : Option Addr) : At w q 0 [] := ⟨rfl, by simp, fun h => absurd h (by decide)⟩
theorem RW.drew {w : World} {B g : Nat} {v : Value} {s : Option (List Nat)} (h : RW w B g v s) : RW w.drew B g v s := h.turn (S := fun _ => False) ((Turn.refl _ w).drew) (fun _ _ hf => hf)
/-- What the document's writer has at its end: its two cells, and what is wanted of it. -/
theorem rw_end {w : World} {B g : Nat} {v : Value} {s : Option (List Nat)} (h : RW w B g v s) : ∃ q m d, (∀ w', Below w.heap.size w w' → w'.cell? ⟨g, 0, none⟩ = some (.slice q m d) ∧ w'.cell? ⟨g, 1, none⟩ = some (.int .i64 (toldE s))) ∧
    (s ≠ none → m = (told s).length ∧ ∀ w', Below w.heap.size w w' → At w' q m (told s)) := by
  have h2 := h.2
  match s, h2 with
  | none, ⟨hb, n, xs, ho⟩ =>
    obtain ⟨q, d, rfl⟩ := own_slice ho
    exact ⟨q, n, d, fun w' hw => ⟨(hb.below hw hb.lt).cell 0, (hb.below hw hb.lt).cell 1⟩, fun h => absurd rfl h⟩
  | some l, ⟨hb, ho, hx⟩ =>
    obtain ⟨q, d, rfl, _, hA⟩ := at_own rfl hx ho
    exact ⟨q, l.length, d, fun w' hw => ⟨(hb.below hw hb.lt).cell 0, (hb.below hw hb.lt).cell 1⟩, fun _ => ⟨rfl, fun w' hw => hA.keep hw⟩⟩
theorem same_yes (p q : Option Addr) (n c d : Nat) (l : List Nat) (w : World) (hn : n ≤ 1000000) (h : At w p n l) (h2 : At w q n l) :
    Calls Try.prog 18 #[.slice p n c, .slice q n d] w fun e w' => e = .returned (.bool true) ∧ Below w.heap.size w w' := same_one p q n c d l w hn h h2
set_option maxRecDepth 100000 in
set_option maxHeartbeats 4000000 in
theorem writes_fit (p : Option Addr) (n c : Nat) (l : List Oc.Th) (W : World) (h : Ths W p n l) (hf : Oc.fitsB l = true) :
    Calls Try.prog 3 #[.slice p n c] W fun e w' => e = .returned (.bool true) ∧ Below W.heap.size W w' := by
  have hfo := Oc.fits_of hf
  have hlen := h.1
  have hn : n ≤ 100 := by omega
  have hn' : (n : Int) ≤ 100 := by omega
  have F := fits_any p n c l W (by omega) h
  rw [hf] at F
  have F' := Lib.hid F
  have H := Lib.hid h
  have HL := Lib.hid hlen
  have HT := Lib.hid hfo.2
  have S0 := Lib.hid (both_start W)
  have LEN : Hid (∀ k, k ≤ n → ∀ m, Oc.wall (some []) (l.take k) = m → short m 2000) := by
    refine Lib.hid fun k hk m hm b hb => ?_
    have h1 := Oc.wall_len l k (by omega) b (by rw [hm]; exact hb)
    have h2 := Oc.tot_take l k
    omega
  clear hf hfo hlen F h hn
  go_enter Try.func3, Try.ntmps3
  go_wp2_with fail
  refine F'.out.mono ?_
  rintro e w' ⟨rfl, rfl⟩
  go_wp2_with fail
  refine (new_any W).mono ?_
  rintro e w' ⟨rfl, rfl⟩
  go_wp2_with fail
  go_loopw [6] (fun i wr => ∃ k : Nat, k ≤ n ∧ i = .int .i64 (k : Int) ∧ Both W wr W.heap.size (W.heap.size + 1) (Oc.wall (some []) (l.take k)) (Oc.wall (some []) (l.take k))) (fun i _ => n - (intOf i).toNat)
  case atStart => exact ⟨0, Nat.zero_le _, rfl, S0.out⟩
  case round =>
    obtain ⟨k, hk, rfl, v, v2, hp, hr, hd, hb⟩ := hrel
    clear F' S0
    by_cases hlt : k < n
    · obtain ⟨b, o, rfl, hbl, hth⟩ := thg_at H.out hb hlt
      have hlt' : (k : Int) < (n : Int) := by omega
      have hk0 : (0 : Int) ≤ (k : Int) := by omega
      have NX := Lib.hid (Oc.wall_succ (some []) (l := l) (k := k) (by rw [HL.out]; exact hlt))
      have TH : Hid (∀ w', Below W.heap.size W w' → Thg w' b (o + k * 4) (l.getD k Oc.t0)) := by
        refine Lib.hid fun w' hw => ?_
        obtain ⟨b', o', e, _, ht'⟩ := thg_at H.out hw hlt
        injection e with e
        injection e with e1 e2
        subst e1 e2
        exact ht'
      have L9 := Lib.hid (short_mono (LEN.out k hk _ rfl) (show 2000 ≤ 900000 by decide))
      have L10 := Lib.hid (short_mono (LEN.out k hk _ rfl) (show 2000 ≤ 1000000 by decide))
      generalize hs1 : Oc.wall (some []) (l.take (k + 1)) = s1 at *
      have HS1 := Lib.hid hs1
      clear hs1
      generalize Oc.wall (some []) (l.take k) = s at *
      generalize htr : l.getD k Oc.t0 = t at *
      have HTR0 := Lib.hid htr
      have HBL := Lib.hid hbl
      clear htr
      obtain ⟨c0, c1, c2, ⟨q, d, c3, hqd, hA⟩, k0, k1, k2⟩ := hth
      obtain ⟨kd, tn, tz, tr⟩ := t
      have HTR : Hid ((l.getD k Oc.t0).run = tr) := Lib.hid (by rw [HTR0.out])
      clear HTR0
      simp only at c0 c1 c2 c3 hqd hA k0 k1 k2
      have k0' : (kd : Int) < 256 := by omega
      have HP := Lib.hid hp
      have HR := Lib.hid hr
      have HD := Lib.hid hd
      have HB := Lib.hid hb
      have K1 := Lib.hid k1
      clear hp hr hd hb k1 k0 hbl hA
      by_cases z0 : kd % 4 = 0
      · have e0 : ((kd : Int) % 4 == 0) = true := by simp; omega
        have NX2 : Hid (s1 = Oc.wnum s tn tz) := Lib.hid (by rw [NX.out]; simp [Oc.wth, z0])
        clear NX
        go_wp2_with fail
        go_region_held3 (fun w' => w'.cell? ⟨b, o + k * 4 + 1, none⟩ = some (.int .u64 (tn : Int)) ∧ w'.cell? ⟨b, o + k * 4 + 2, none⟩ = some (.int .i64 tz))
          (first | go_keep | exact ⟨d1, d2⟩)
          (((with_reducible refine (num_any _ _ _ _ _ _ _ HP.out.drew L10.out).mono ?_); rintro e w1 ⟨rfl, hw⟩; obtain ⟨v', v2', hp', hr', hd', hb'⟩ := both_left HP.out.drew HR.out.drew HD.out HB.out.drew hw; obtain ⟨_, d1, d2, _⟩ := TH.out w1 hb'))
        have HP1 := Lib.hid hp'
        have HR1 := Lib.hid hr'
        have HD1 := Lib.hid hd'
        have HB1 := Lib.hid hb'
        clear hp' hr' hd' hb' hw c0 c1 c2 c3 HP HR HD HB
        go_wp2_with fail
        go_region_held3 (fun w' => w'.cell? ⟨b, o + k * 4 + 1, none⟩ = some (.int .u64 (tn : Int)) ∧ w'.cell? ⟨b, o + k * 4 + 2, none⟩ = some (.int .i64 tz))
          (first | go_keep | exact ⟨f1, f2⟩)
          (((with_reducible refine (rput_any _ _ _ _ _ _ _ HR1.out.drew K1.out L10.out).mono ?_); rintro e w2 ⟨rfl, hw⟩; have hB2 := both_right HP1.out.drew HR1.out.drew HD1.out HB1.out.drew hw; obtain ⟨v3, v4, hp2, hr2, hd2, hb2⟩ := hB2; obtain ⟨_, f1, f2, _⟩ := TH.out w2 hb2))
        have HB2 : Hid (Both W w2 W.heap.size (W.heap.size + 1) s1 s1) := Lib.hid (by rw [NX2.out]; exact ⟨v3, v4, hp2, hr2, hd2, hb2⟩)
        clear hp2 hr2 hd2 hb2 hw f1 f2 d1 d2
        go_wp2
        go_roundw
        case rel => exact ⟨k + 1, by omega, by go_num, by rw [HS1.out]; exact HB2.out⟩
        case measure => simp [intOf]; omega
      · have e0 : ((kd : Int) % 4 == 0) = false := by simp; omega
        by_cases z1 : kd % 4 = 1
        · have e1 : ((kd : Int) % 4 == 1) = true := by simp; omega
          have NX2 : Hid (s1 = Oc.wnum s tn 8) := Lib.hid (by rw [NX.out]; simp [Oc.wth, z1])
          have IW := Lib.hid (u64_of_wrap tn K1.out)
          clear NX
          go_wp2_with fail
          refine (int_any _ _ _ _ _ tn _ HP.out IW.out L10.out).mono ?_
          rintro e w1 ⟨rfl, hw⟩
          obtain ⟨v', v2', hp', hr', hd', hb'⟩ := both_left HP.out HR.out HD.out HB.out hw
          obtain ⟨_, d1, _⟩ := TH.out w1 hb'
          have HP1 := Lib.hid hp'
          have HR1 := Lib.hid hr'
          have HD1 := Lib.hid hd'
          have HB1 := Lib.hid hb'
          clear hp' hr' hd' hb' hw c0 c1 c2 c3 HP HR HD HB
          go_wp2_with fail
          refine (rint_any _ _ _ _ _ tn _ HR1.out IW.out K1.out L10.out).mono ?_
          rintro e w2 ⟨rfl, hw⟩
          have hB2 := both_right HP1.out HR1.out HD1.out HB1.out hw
          rw [← NX2.out] at hB2
          have HB2 := Lib.hid hB2
          clear hB2 hw d1
          go_wp2
          go_roundw
          case rel => exact ⟨k + 1, by omega, by go_num, by rw [HS1.out]; exact HB2.out⟩
          case measure => simp [intOf]; omega
        · have e1 : ((kd : Int) % 4 == 1) = false := by simp; omega
          by_cases z2 : kd % 4 = 2
          · have e2 : ((kd : Int) % 4 == 2) = true := by simp; omega
            have NX2 : Hid (s1 = Oc.wnum s (if ((tn : Int) % 2 == 1) = true then 1 else 0) 1) := Lib.hid (by
              rw [NX.out]
              have : (if ((tn : Int) % 2 == 1) = true then 1 else 0) = tn % 2 := by
                by_cases h2 : tn % 2 = 1
                · rw [if_pos (by simp; omega), h2]
                · rw [if_neg (by simp; omega)]
                  omega
              rw [this]
              simp [Oc.wth, z2])
            clear NX
            generalize hx : ((tn : Int) % 2 == 1) = x at *
            go_wp2_with fail
            refine (bool_any _ _ _ _ x _ HP.out L10.out).mono ?_
            rintro e w1 ⟨rfl, hw⟩
            obtain ⟨v', v2', hp', hr', hd', hb'⟩ := both_left HP.out HR.out HD.out HB.out hw
            obtain ⟨_, d1, _⟩ := TH.out w1 hb'
            have HP1 := Lib.hid hp'
            have HR1 := Lib.hid hr'
            have HD1 := Lib.hid hd'
            have HB1 := Lib.hid hb'
            clear hp' hr' hd' hb' hw c0 c1 c2 c3 HP HR HD HB
            go_wp2_with fail
            refine (rbool_any _ _ _ _ x _ HR1.out L10.out).mono ?_
            rintro e w2 ⟨rfl, hw⟩
            have hB2 := both_right HP1.out HR1.out HD1.out HB1.out hw
            rw [← NX2.out] at hB2
            have HB2 := Lib.hid hB2
            clear hB2 hw d1
            go_wp2
            go_roundw
            case rel => exact ⟨k + 1, by omega, by go_num, by rw [HS1.out]; exact HB2.out⟩
            case measure => simp [intOf]; omega
          · have e2 : ((kd : Int) % 4 == 2) = false := by simp; omega
            have NX2 : Hid (s1 = Oc.wrun s tr) := Lib.hid (by rw [NX.out]; simp [Oc.wth, z0, z1, z2])
            have R1 : Hid (tr.length ≤ 1000000) := Lib.hid (by
              have h1 := Oc.tot_succ (l := l) (k := k) (by rw [HL.out]; exact hlt)
              have h2 := Oc.tot_take l (k + 1)
              rw [HTR.out] at h1
              have := HT.out
              omega)
            obtain ⟨q', d', c3', _, hAW⟩ := (TH.out W (Below.refl _ W)).2.2.2.1
            obtain ⟨q2, d2, c3b, _, hAb⟩ := (TH.out wr HB.out).2.2.2.1
            simp only at c3' hAW c3b hAb
            have e3 := c3.symm.trans c3b
            simp only [Option.some.injEq, Value.slice.injEq] at e3
            obtain ⟨rfl, _, rfl⟩ := e3
            have e4 := ((HB.out.cell (p := ⟨b, o + k * 4 + 3, none⟩) HBL.out).trans c3').symm.trans c3
            simp only [Option.some.injEq, Value.slice.injEq] at e4
            obtain ⟨rfl, _, rfl⟩ := e4
            have AW := Lib.hid hAW
            have AB := Lib.hid hAb
            clear NX c3' c3b hAW hAb
            go_wp2_with fail
            refine (run_any _ _ _ _ _ _ _ tr _ HP.out L9.out R1.out AB.out (src_far HP.out AW.out)).mono ?_
            rintro e w1 ⟨rfl, hw⟩
            obtain ⟨v', v2', hp', hr', hd', hb'⟩ := both_left HP.out HR.out HD.out HB.out hw
            have A1 := Lib.hid (AW.out.keep hb')
            have d3 : w1.cell? ⟨b, o + k * 4 + 3, none⟩ = some (.slice q' tr.length d') := by
              have h1 := hb'.cell (p := ⟨b, o + k * 4 + 3, none⟩) HBL.out
              have h2 := HB.out.cell (p := ⟨b, o + k * 4 + 3, none⟩) HBL.out
              rw [h1, ← h2]
              exact c3
            have HP1 := Lib.hid hp'
            have HR1 := Lib.hid hr'
            have HD1 := Lib.hid hd'
            have HB1 := Lib.hid hb'
            clear hp' hr' hd' hb' hw c0 c1 c2 c3 HP HR HD HB AB
            go_wp2_with fail
            refine (rrun_any _ _ _ _ _ _ _ tr _ HR1.out L9.out R1.out A1.out (src_far2 HR1.out AW.out)).mono ?_
            rintro e w2 ⟨rfl, hw⟩
            have hB2 := both_right HP1.out HR1.out HD1.out HB1.out hw
            rw [← NX2.out] at hB2
            have HB2 := Lib.hid hB2
            clear hB2 hw d3
            go_wp2
            go_roundw
            case rel => exact ⟨k + 1, by omega, by go_num, by rw [HS1.out]; exact HB2.out⟩
            case measure => simp [intOf]; omega
    · obtain rfl : k = n := by omega
      have LS : Hid (short (Oc.wall (some []) (l.take k)) 1000000) := Lib.hid (short_mono (LEN.out k (Nat.le_refl _) _ rfl) (by decide))
      clear LEN HT H HL
      generalize Oc.wall (some []) (l.take k) = s at *
      obtain ⟨q2, m2, e2, hcells, hwant⟩ := rw_end hr
      have HP := Lib.hid hp
      have HB := Lib.hid hb
      have HC := Lib.hid hcells
      have HW := Lib.hid hwant
      clear hp hr hd hb hcells hwant
      go_wp2_with fail
      refine (done_any _ _ _ _ _ HP.out LS.out).mono ?_
      rintro e w1 ⟨q, d, rfl, hd, hA, hb⟩
      obtain ⟨c0, c1⟩ := HC.out w1 hb
      have A1 := Lib.hid hA
      have B1 := Lib.hid hb
      clear hA hb hd
      by_cases hs : s = none
      · have tE : toldE s = 1 := by rw [hs]; rfl
        have tl : told s = [] := by rw [hs]; rfl
        rw [tl] at A1
        rw [tl]
        rw [tE] at c1 HC
        rw [tE]
        clear tE tl hs
        go_wp2_with fail
        refine (same_yes q none 0 d 0 [] w1 (by decide) A1.out (at_nil w1)).mono ?_
        rintro e w2 ⟨rfl, hb⟩
        have B2 := Lib.hid (then_ B1.out hb)
        clear hb c0 c1 B1 A1
        go_wp2_with fail
        have B3 := Lib.hid (then_ B2.out (alloc_below w2 (.cells #[.int .u8 1] 5)))
        clear B2
        refine (nil_run _ 1 1 _ (by decide)).mono ?_
        rintro e w' ⟨rfl, rfl⟩
        generalize w2.alloc (.cells #[.int .u8 1] 5) = w3 at *
        go_wp2_with fail
        refine (nil_done _).mono ?_
        rintro e w' ⟨rfl, rfl⟩
        go_wp2_with fail
        refine (alive_any _).mono ?_
        rintro e w4 ⟨rfl, hb⟩
        have B4 := Lib.hid (then_ B3.out hb)
        obtain ⟨c0, c1⟩ := HC.out w4 B4.out
        clear hb B3
        go_wp2
        go_ret
        exact ⟨rfl, HB.out.trans (B4.out.mono HB.out.size)⟩
      · have tE : toldE s = 0 := by
          cases s with
          | none => exact absurd rfl hs
          | some _ => rfl
        obtain ⟨rfl, hat⟩ := HW.out hs
        have A2 := Lib.hid (hat w1 B1.out)
        have LT : Hid ((told s).length ≤ 1000000) := Lib.hid (by
          cases s with
          | none => exact absurd rfl hs
          | some l => exact LS.out l rfl)
        rw [tE] at c1 HC
        rw [tE]
        clear tE hs hat
        go_wp2_with fail
        refine (same_yes q q2 _ d e2 (told s) w1 LT.out A1.out A2.out).mono ?_
        rintro e w2 ⟨rfl, hb⟩
        have B2 := Lib.hid (then_ B1.out hb)
        clear hb c0 c1 B1 A1 A2
        go_wp2_with fail
        have B3 := Lib.hid (then_ B2.out (alloc_below w2 (.cells #[.int .u8 1] 5)))
        clear B2
        refine (nil_run _ 1 1 _ (by decide)).mono ?_
        rintro e w' ⟨rfl, rfl⟩
        generalize w2.alloc (.cells #[.int .u8 1] 5) = w3 at *
        go_wp2_with fail
        refine (nil_done _).mono ?_
        rintro e w' ⟨rfl, rfl⟩
        go_wp2_with fail
        refine (alive_any _).mono ?_
        rintro e w4 ⟨rfl, hb⟩
        have B4 := Lib.hid (then_ B3.out hb)
        obtain ⟨c0, c1⟩ := HC.out w4 B4.out
        clear hb B3
        go_wp2
        go_ret
        exact ⟨rfl, HB.out.trans (B4.out.mono HB.out.size)⟩
theorem writes_no (p : Option Addr) (n c : Nat) (l : List Oc.Th) (W : World) (hn : n ≤ 9223372036854775807) (h : Ths W p n l) (hf : Oc.fitsB l = false) :
    Calls Try.prog 3 #[.slice p n c] W fun e w' => e = .returned (.bool true) ∧ Below W.heap.size W w' := by
  have F := fits_any p n c l W hn h
  rw [hf] at F
  have F' := Lib.hid F
  clear F h hf hn
  go_enter Try.func3, Try.ntmps3
  go_wp2_with fail
  refine F'.out.mono ?_
  rintro e w' ⟨rfl, rfl⟩
  go_wp2_with fail
  refine (alive_any _).mono ?_
  rintro e w1 ⟨rfl, hb⟩
  have HB := Lib.hid hb
  clear hb
  go_wp2
  go_ret
  exact ⟨rfl, HB.out⟩
theorem writes_any (p : Option Addr) (n c : Nat) (l : List Oc.Th) (W : World) (hn : n ≤ 9223372036854775807) (h : Ths W p n l) :
    Calls Try.prog 3 #[.slice p n c] W fun e w' => e = .returned (.bool true) ∧ Below W.heap.size W w' := by
  by_cases hf : Oc.fitsB l = true
  · exact writes_fit p n c l W h hf
  · exact writes_no p n c l W hn h (by simpa using hf)
end Go.Proofs.Ytakkkdmbghdhgaa
