/- Layer 13's law: what is told. Conditions: the stays' and puts' slices are no longer than their capacity, numbers fit. -/
import Derived.Test.YtehiclmkdpcplaaQ12
import Derived.Test.YtehiclmkdpcplaaQ07
namespace Go.Proofs.Ytehiclmkdpcplaa
open Go.RowKit

namespace Lg
open Se
theorem st_off {W : World} {p : Option Addr} {n : Nat} {S : List Sy.Sy} (h : Rw 3 Sy.scells W p n S) {w1 : World} (hs : W.heap.size ≤ w1.heap.size) (X : Nat → Prop) : Off w1 X p n := fun a ha h0 => by
  obtain ⟨b, o, e, hc⟩ := h.2 h0
  rw [ha] at e
  have ea := Option.some.inj e
  subst ea
  have hx := hc 0 _ (List.getElem?_eq_getElem (by rw [h.1]; exact h0)) 0 (by decide)
  have := World.block_lt_of_cell? W _ hx
  exact .inl (Nat.lt_of_lt_of_le this hs)
theorem puts_step {st : List Zl} {l : List Pt} {k : Nat} {x : Pt} (h : l[k]? = some x) : putsZ st (l.take (k + 1)) = (putZ (putsZ st (l.take k)) x.1 x.2).2 := by
  rw [List.take_add_one, h]
  exact putsZ_snoc _ _ _
theorem puts_len (st : List Zl) (l : List Pt) : (putsZ st l).length = st.length := by
  have := congrArg List.length (putsZ_ids st l)
  simpa using this
theorem read_len {T : List Zl} {m : Nat} (h : Good T m) (z : Int) : (readZ T z).length ≤ m := by
  unfold readZ
  split
  · exact Nat.zero_le _
  · split
    · exact Nat.zero_le _
    · rename_i x hx
      exact (h x (List.mem_of_getElem? hx)).len
theorem rsame_rows (qa qb : Option Addr) (da db : Nat) (l : List Rd) (W : World) (h1 : Rw 3 rcells W qa l.length l) (h2 : Rw 3 rcells W qb l.length l) (hn : l.length ≤ 1000) :
    Calls Try.prog 14 #[.slice qa l.length da, .slice qb l.length db] W fun e w' => e = .returned (.bool true) ∧ Below W.heap.size W w' := by
  refine (rsame_any qa qb l.length l.length da db l l W (by omega) h1 h2).mono ?_
  rintro e w' ⟨rfl, k, rfl⟩
  exact ⟨by simp, below_drewN (Below.refl _ _) _⟩
theorem puts_good {st : List Zl} {m : Nat} (h : Good st m) (l : List Pt) : Good (putsZ st l) (m + l.length) := by
  induction l generalizing st m with
  | nil => exact h
  | cons p l ih =>
    have := ih (good_put h p.1 p.2)
    rw [List.length_cons, show m + (l.length + 1) = m + 1 + l.length by omega]
    exact this
set_option maxRecDepth 100000 in
set_option maxHeartbeats 4000000 in
theorem tells_long (I : Face) (zp up p : Option Addr) (zn zc un uc n c : Nat) (lim m : Int) (S : List Sy.Sy) (w : World) (hr : Rw 3 Sy.scells w p n S) (hn : n ≤ 9223372036854775807) (hzn : zn ≤ 9223372036854775807) (hun : un ≤ 9223372036854775807) (hm : I64 m) (hl : 40 < n ∨ 40 < zn ∨ 40 < un) :
    Calls Try.prog 3 #[.slice zp zn zc, .slice up un uc, .agg #[.int .i64 lim, .slice p n c, .int .i64 m]] w fun e w' => e = .returned (.bool true) ∧ Below w.heap.size w w' := by
  have AL := Lib.hid (fun W => alive_any I W)
  have B0 := Lib.hid (alloc_below w (.cells #[.int .i64 lim, .slice p n c, .int .i64 m] 26))
  have X0 := Lib.hid (Lies.new w 26 #[.int .i64 lim, .slice p n c, .int .i64 m])
  have FT := Lib.hid (fits_any p n c S m (w.alloc (.cells #[.int .i64 lim, .slice p n c, .int .i64 m] 26)) (hr.keep Sy.scells_len B0.out) hn hm)
  have hzn' : (zn : Int) ≤ 9223372036854775807 := by omega
  have hun' : (un : Int) ≤ 9223372036854775807 := by omega
  clear hr
  obtain ⟨w1, hw1⟩ : ∃ w1, w.alloc (.cells #[.int .i64 lim, .slice p n c, .int .i64 m] 26) = w1 := ⟨_, rfl⟩
  rw [hw1] at B0 X0 FT
  have z1 : w1.cell? ⟨w.heap.size, 1, none⟩ = some (.slice p n c) := X0.out.cell 1
  have z2 : w1.cell? ⟨w.heap.size, 2, none⟩ = some (.int .i64 m) := X0.out.cell 2
  go_enter Try.func3, Try.ntmps3
  go_wp2_with fail
  refine FT.out.mono ?_
  rintro e w2 ⟨bl, rfl, hbl, hb⟩
  have B2 := Lib.hid (B0.out.trans (hb.mono B0.out.size))
  clear hb hw1 z1 z2
  cases bl
  · go_wp2_with fail
    refine (AL.out _).mono ?_
    rintro e w3 ⟨rfl, hb⟩
    have B3 := Lib.hid (B2.out.trans (hb.mono B2.out.size))
    clear hb
    go_wp2
    go_ret
    exact ⟨rfl, B3.out⟩
  have h40 := hbl rfl
  by_cases h1 : 40 < zn
  · have d1 : decide ((zn : Int) > 40) = true := by simp; omega
    go_wp2_with fail
    refine (AL.out _).mono ?_
    rintro e w3 ⟨rfl, hb⟩
    have B3 := Lib.hid (B2.out.trans (hb.mono B2.out.size))
    clear hb
    go_wp2
    go_ret
    exact ⟨rfl, B3.out⟩
  have d1 : decide ((zn : Int) > 40) = false := by simp; omega
  have h2 : 40 < un := by omega
  have d2 : decide ((un : Int) > 40) = true := by simp; omega
  go_wp2_with fail
  refine (AL.out _).mono ?_
  rintro e w3 ⟨rfl, hb⟩
  have B3 := Lib.hid (B2.out.trans (hb.mono B2.out.size))
  clear hb
  go_wp2
  go_ret
  exact ⟨rfl, B3.out⟩
set_option maxRecDepth 100000 in
set_option maxHeartbeats 32000000 in
theorem tells_short (I : Face) (zp up p : Option Addr) (zn zc un uc n c : Nat) (lim m : Int) (Z : List Ms.Zn) (l : List Pt) (S : List Sy.Sy) (w : World) (hr : Rw 3 Sy.scells w p n S) (hn : n ≤ 40) (hnc : n ≤ c) (hzr : Rw 6 Ms.zcells w zp zn Z) (hzn : zn ≤ 40) (hzi : ∀ z ∈ Z, I64 z.id) (hur : Rw 4 ucells w up un l) (hun : un ≤ 40) (huc : un ≤ uc) (hui : ∀ x ∈ l, I64 x.1) (hS : Sok S) (hl : I64 lim) (hm : I64 m) :
    Calls Try.prog 3 #[.slice zp zn zc, .slice up un uc, .agg #[.int .i64 lim, .slice p n c, .int .i64 m]] w fun e w' => e = .returned (.bool true) ∧ Below w.heap.size w w' := by
  have AL := Lib.hid (fun W => alive_any I W)
  have B0 := Lib.hid (alloc_below w (.cells #[.int .i64 lim, .slice p n c, .int .i64 m] 26))
  have X0 := Lib.hid (Lies.new w 26 #[.int .i64 lim, .slice p n c, .int .i64 m])
  have FT := Lib.hid (fits_any p n c S m (w.alloc (.cells #[.int .i64 lim, .slice p n c, .int .i64 m] 26)) (hr.keep Sy.scells_len B0.out) (by omega) hm)
  have HR := Lib.hid hr
  have HU := Lib.hid hur
  have HZ := Lib.hid hzr
  have HLn := Lib.hid hur.1
  have HUI := Lib.hid hui
  have hzn' : (zn : Int) ≤ 40 := by omega
  have hun' : (un : Int) ≤ 40 := by omega
  have huc' : (un : Int) ≤ (uc : Int) := by omega
  obtain ⟨w1, hw1⟩ : ∃ w1, w.alloc (.cells #[.int .i64 lim, .slice p n c, .int .i64 m] 26) = w1 := ⟨_, rfl⟩
  rw [hw1] at B0 X0 FT
  have z1 : w1.cell? ⟨w.heap.size, 1, none⟩ = some (.slice p n c) := X0.out.cell 1
  have z2 : w1.cell? ⟨w.heap.size, 2, none⟩ = some (.int .i64 m) := X0.out.cell 2
  go_enter Try.func3, Try.ntmps3
  go_wp2_with fail
  refine FT.out.mono ?_
  rintro e w2 ⟨bl, rfl, _, hb⟩
  have B2 := Lib.hid (B0.out.trans (hb.mono B0.out.size))
  have X2 := Lib.hid (X0.out.below hb X0.out.lt)
  clear hb hw1 z1 z2 X0 B0
  cases bl
  · go_wp2_with fail
    refine (AL.out _).mono ?_
    rintro e w3 ⟨rfl, hb⟩
    have B3 := Lib.hid (B2.out.trans (hb.mono B2.out.size))
    clear hb
    go_wp2
    go_ret
    exact ⟨rfl, B3.out⟩
  have d1 : decide ((zn : Int) > 40) = false := by simp; omega
  have d2 : decide ((un : Int) > 40) = false := by simp; omega
  have OFC := Lib.hid (of_any I zp zn zc Z w2 (hzr.keep Ms.zcells_len B2.out) (by omega) hzi)
  have HC := Lib.hid (fun W (hW : Below w2.heap.size w2 W) => show W.cell? ⟨w.heap.size, 0, none⟩ = some (.int .i64 lim) ∧ W.cell? ⟨w.heap.size, 1, none⟩ = some (.slice p n c) ∧ W.cell? ⟨w.heap.size, 2, none⟩ = some (.int .i64 m) from
    ⟨(X2.out.below hW X2.out.lt).cell 0, (X2.out.below hW X2.out.lt).cell 1, (X2.out.below hW X2.out.lt).cell 2⟩)
  have HB := Lib.hid (fun W (hW : Below w2.heap.size w2 W) => show Below w.heap.size w W from B2.out.trans (hW.mono B2.out.size))
  have OF := Lib.hid (st_off HR.out B2.out.size (fun _ => False))
  have HG0 := Lib.hid (runZ_good Z)
  have HL0 := Lib.hid (show (runZ Z).length ≤ 40 from Nat.le_trans (runZ_len Z) (by rw [hzr.1]; exact hzn))
  clear FT hr hzr hur hui hzi
  go_wp2_with fail
  refine OFC.out.mono ?_
  rintro e w3 ⟨h, g, rfl, hb⟩
  have P3 := Lib.hid hb
  clear hb OFC
  generalize runZ Z = st at *
  have HGk := Lib.hid (fun k => show Good (putsZ st (l.take k)) 1000 from (puts_good HG0.out (l.take k)).mono (by rw [List.length_take]; have := HLn.out; omega))
  have HLk := Lib.hid (fun k => show (putsZ st (l.take k)).length ≤ 1000 by rw [puts_len]; have := HL0.out; omega)
  go_wp2_with fail
  go_loopw [11] (fun i wr => ∃ k : Nat, k ≤ un ∧ i = .int .i64 k ∧ Hid (Both I.DB Rg w2 (fun _ => False) h g wr (putsZ st (l.take k)) (putsZ st (l.take k)))) (fun i _ => un - (RowKit.intOf i).toNat)
  case atStart => exact ⟨0, Nat.zero_le _, rfl, P3⟩
  case round =>
    clear P3
    obtain ⟨k, hk, rfl, PB⟩ := hrel
    by_cases hlt : k < un
    · have hk3 : (k : Int) < (un : Int) := by omega
      obtain ⟨x, hx⟩ : ∃ x, l[k]? = some x := ⟨_, List.getElem?_eq_getElem (by rw [HLn.out]; exact hlt)⟩
      obtain ⟨b, o, e, hc⟩ := HU.out.2 (by omega)
      subst e
      have hcx := hc k x hx
      have EC := Lib.hid (fun W (hW : Below w2.heap.size w2 W) j (hj : j < 4) => show W.cell? ⟨b, o + k * 4 + j, none⟩ = (ucells x)[j]? from by
        have h0 := hcx j hj
        refine ((HB.out W hW).cell (p := ⟨b, o + k * 4 + j, none⟩) ?_).trans h0
        rw [List.getElem?_eq_getElem (by rw [ucells_len]; exact hj)] at h0
        exact World.block_lt_of_cell? w _ h0)
      have TK := Lib.hid (puts_step (st := st) hx)
      have GK := Lib.hid (HGk.out k)
      have LK := Lib.hid (HLk.out k)
      have GN := Lib.hid (HGk.out (k + 1))
      have LN := Lib.hid (HLk.out (k + 1))
      have HI := Lib.hid (HUI.out x (List.mem_of_getElem? hx))
      rw [TK.out] at GN LN
      generalize hst : putsZ st (l.take k) = T at *
      have C1 := Lib.hid (fun W (hW : Both I.DB Rg w2 (fun _ => False) h g W (T) (T)) => two_put1 I rg_turns hW GK.out LK.out x.1 x.2 HI.out)
      have C2 := Lib.hid (fun W (hW : Both I.DB Rg w2 (fun _ => False) h g W (putZ T x.1 x.2).2 T) => two_put2 I.turns hW GK.out LK.out x.1 x.2)
      have SN := Lib.hid (fun W (hW : Both I.DB Rg w2 (fun _ => False) h g W (putZ T x.1 x.2).2 (putZ T x.1 x.2).2) => show Both I.DB Rg w2 (fun _ => False) h g W (putsZ st (l.take (k + 1))) (putsZ st (l.take (k + 1))) from by rw [TK.out]; exact hW)
      clear TK GK LK HI hx hc hcx hst
      generalize (putZ T x.1 x.2).2 = T2 at *
      generalize (putZ T x.1 x.2).1.1 = p1 at *
      generalize (putZ T x.1 x.2).1.2 = p2 at *
      have XE := Lib.hid (fun W (hW : Both I.DB Rg w2 (fun _ => False) h g W (T2) (T2)) => two_expo1 I rg_turns hW GN.out LN.out lim p n c S m hl hm (HR.out.keep Sy.scells_len (HB.out W hW.bel)) (by omega) hnc hS OF.out)
      have YE := Lib.hid (fun W (hW : Both I.DB Rg w2 (fun _ => False) h g W (T2) (T2)) => two_expo2 hW GN.out LN.out lim p n c S m hm (HR.out.keep Sy.scells_len (HB.out W hW.bel)) (by omega) hS)
      generalize expo T2 lim S m = ex at *
      obtain ⟨xz, xm, xs, xt⟩ := x
      simp only [rval] at C1 C2
      clear GN LN
      have SD := Lib.hid (both_below I.turns rg_turns PB.out ((Below.refl _ wr).drew))
      have e0 : wr.cell? ⟨b, o + k * 4, none⟩ = some (.int .i64 xz) := EC.out wr PB.out.bel 0 (by decide)
      have e1 : wr.cell? ⟨b, o + k * 4 + 1, none⟩ = some (.int .i64 xm) := EC.out wr PB.out.bel 1 (by decide)
      have e2 : wr.cell? ⟨b, o + k * 4 + 2, none⟩ = some (.int .i64 xs) := EC.out wr PB.out.bel 2 (by decide)
      have e3 : wr.cell? ⟨b, o + k * 4 + 3, none⟩ = some (.int .i64 xt) := EC.out wr PB.out.bel 3 (by decide)
      go_wp2_with fail
      go_region_held3 (fun w' => w'.cell? ⟨b, o + k * 4, none⟩ = some (.int .i64 xz) ∧ w'.cell? ⟨b, o + k * 4 + 1, none⟩ = some (.int .i64 xm) ∧ w'.cell? ⟨b, o + k * 4 + 2, none⟩ = some (.int .i64 xs) ∧ w'.cell? ⟨b, o + k * 4 + 3, none⟩ = some (.int .i64 xt))
        (first | go_keep | exact ⟨f0, f1, f2, f3⟩ | exact ⟨e0, e1, e2, e3⟩)
        ((go_at_call 8; ((with_reducible refine (C1.out _ SD.out).mono ?_); rintro E w4 ⟨rfl, hs4, _⟩; have P4 := Lib.hid hs4; have f0 : w4.cell? ⟨b, o + k * 4, none⟩ = some (.int .i64 xz) := EC.out w4 hs4.bel 0 (by decide); have f1 : w4.cell? ⟨b, o + k * 4 + 1, none⟩ = some (.int .i64 xm) := EC.out w4 hs4.bel 1 (by decide); have f2 : w4.cell? ⟨b, o + k * 4 + 2, none⟩ = some (.int .i64 xs) := EC.out w4 hs4.bel 2 (by decide); have f3 : w4.cell? ⟨b, o + k * 4 + 3, none⟩ = some (.int .i64 xt) := EC.out w4 hs4.bel 3 (by decide))))
      all_goals
        clear hs4 C1 PB e0 e1 e2 e3 SD
        have SD := Lib.hid (both_below I.turns rg_turns P4.out ((Below.refl _ w4).drew))
        go_wp2_with fail
        go_region_held3 (fun w' => w'.cell? ⟨b, o + k * 4, none⟩ = some (.int .i64 xz) ∧ w'.cell? ⟨b, o + k * 4 + 1, none⟩ = some (.int .i64 xm) ∧ w'.cell? ⟨b, o + k * 4 + 2, none⟩ = some (.int .i64 xs) ∧ w'.cell? ⟨b, o + k * 4 + 3, none⟩ = some (.int .i64 xt))
          (first | go_keep | exact ⟨e0, e1, e2, e3⟩ | exact ⟨f0, f1, f2, f3⟩)
          ((go_at_call 9; ((with_reducible refine (C2.out _ SD.out).mono ?_); rintro E w5 ⟨rfl, hs5, _⟩; have P5 := Lib.hid hs5; have e0 : w5.cell? ⟨b, o + k * 4, none⟩ = some (.int .i64 xz) := EC.out w5 hs5.bel 0 (by decide); have e1 : w5.cell? ⟨b, o + k * 4 + 1, none⟩ = some (.int .i64 xm) := EC.out w5 hs5.bel 1 (by decide); have e2 : w5.cell? ⟨b, o + k * 4 + 2, none⟩ = some (.int .i64 xs) := EC.out w5 hs5.bel 2 (by decide); have e3 : w5.cell? ⟨b, o + k * 4 + 3, none⟩ = some (.int .i64 xt) := EC.out w5 hs5.bel 3 (by decide))))
        all_goals
          clear hs5 C2 P4 SD EC e0 e1 e2 e3 f0 f1 f2 f3
          have q1 : (p1 != p1) = false := by cases p1 <;> rfl
          have q2 : (((p2 : Nat) : Int) != ((p2 : Nat) : Int)) = false := by simp
          by_cases h4 : (k : Int).tmod 4 = 0
          · have t4 : ((k : Int).tmod 4 == 0) = true := by simp [h4]
            clear h4
            have SD := Lib.hid (both_below I.turns rg_turns P5.out ((Below.refl _ w5).drew))
            have Q5 := HC.out w5 P5.out.bel
            obtain ⟨z0, z1, z2⟩ := Q5
            go_wp2_with fail
            go_region_held3 (fun w' => w'.cell? ⟨w.heap.size, 0, none⟩ = some (.int .i64 lim) ∧ w'.cell? ⟨w.heap.size, 1, none⟩ = some (.slice p n c) ∧ w'.cell? ⟨w.heap.size, 2, none⟩ = some (.int .i64 m))
              (first | go_keep | exact ⟨x0, x1, x2⟩ | exact ⟨y0, y1, y2⟩ | exact ⟨z0, z1, z2⟩)
              (first | (go_at_call 10; ((with_reducible refine (XE.out _ SD.out).mono ?_); rintro E w6 ⟨rfl, hs6, _⟩; have P6 := Lib.hid hs6; obtain ⟨y0, y1, y2⟩ := HC.out w6 hs6.bel)) | (go_at_call 11; ((with_reducible refine (YE.out _ P6.out).mono ?_); rintro E w7 ⟨rfl, hb7⟩; have P7 := Lib.hid (both_below I.turns rg_turns P6.out hb7); obtain ⟨x0, x1, x2⟩ := HC.out w7 P7.out.bel)))
            all_goals
              have S7 := Lib.hid (SN.out _ P7.out)
              clear hs6 hb7 P5 P6 P7 SD SN XE YE x0 x1 x2 y0 y1 y2 z0 z1 z2
              go_wp2
              go_roundw
              case rel => exact ⟨k + 1, by omega, by go_num, S7⟩
              case measure => simp [RowKit.intOf]; omega
          · have t4 : ((k : Int).tmod 4 == 0) = false := by simp [h4]
            have t5 : ((k : Int) % 4 == 0) = false := by
              rw [Int.tmod_eq_emod_of_nonneg (by omega)] at h4
              simp [h4]
            clear h4
            have S5 := Lib.hid (SN.out _ P5.out)
            clear SN XE YE P5
            go_wp2_with fail
            refine wp_region_quiet_below (by kernel_rfl) (by kernel_rfl) ?_
            repeat (go_big_quiet_step (fail))
            refine wpQuiet_nil ?_
            intro _ hw'
            obtain ⟨⟨dq, osq⟩, hw''⟩ := hw'
            subst hw''
            have S6 := Lib.hid (both_below I.turns rg_turns S5.out (below_regrown w5 dq osq))
            generalize Sort.grow (redrawn w5 dq) osq = w6 at *
            go_wp2
            go_roundw
            case rel => exact ⟨k + 1, by omega, by go_num, S6⟩
            case measure => simp [RowKit.intOf]; omega
    · obtain rfl : k = un := by omega
      have hT : l.take k = l := List.take_of_length_le (by rw [HLn.out]; exact Nat.le_refl _)
      have GT := Lib.hid (HGk.out k)
      have LT := Lib.hid (HLk.out k)
      rw [hT] at PB GT LT
      clear hT HGk HLk HG0 HL0
      generalize putsZ st l = T at *
      have XE := Lib.hid (fun W (hW : Both I.DB Rg w2 (fun _ => False) h g W (T) (T)) => two_expo1 I rg_turns hW GT.out LT.out lim p n c S m hl hm (HR.out.keep Sy.scells_len (HB.out W hW.bel)) (by omega) hnc hS OF.out)
      have YE := Lib.hid (fun W (hW : Both I.DB Rg w2 (fun _ => False) h g W (T) (T)) => two_expo2 hW GT.out LT.out lim p n c S m hm (HR.out.keep Sy.scells_len (HB.out W hW.bel)) (by omega) hS)
      have A1 := Lib.hid (fun (z : Int) (hz : I64 z) W (hW : Both I.DB Rg w2 (fun _ => False) h g W (T) (T)) => two_air1 I hW GT.out LT.out z m hz hm)
      have A2 := Lib.hid (fun (z : Int) W (hW : Both I.DB Rg w2 (fun _ => False) h g W (T) (T)) => two_air2 hW GT.out LT.out z m hm)
      have D1 := Lib.hid (fun (z : Int) (hz : I64 z) W (hW : Both I.DB Rg w2 (fun _ => False) h g W (T) (T)) => two_told1 I hW GT.out LT.out z hz)
      have D2 := Lib.hid (fun (z : Int) W (hW : Both I.DB Rg w2 (fun _ => False) h g W (T) (T)) => two_told2 hW GT.out LT.out z)
      have HS := Lib.hid (fun z => read_len GT.out z)
      generalize expo T lim S m = ex at *
      have NP := Lib.hid (fun W => I.nil_put 1 ⟨0, 0, 0⟩ W)
      have NA := Lib.hid (fun W => I.nil_air 1 0 W)
      have NZ := Lib.hid (fun W => I.nil_add ⟨1, 0, 0, 0, false, 0⟩ W)
      have NE := Lib.hid (fun W (hW : Both I.DB Rg w2 (fun _ => False) h g W (T) (T)) => I.nil_expo 0 p n c S 9 W (HR.out.keep Sy.scells_len (HB.out W hW.bel)) (by omega) hnc)
      have ND := Lib.hid (fun W => I.nil_told 1 W)
      simp only [rval] at NP
      simp only [Ms.zval] at NZ
      obtain ⟨z0, z1, z2⟩ := HC.out wr PB.out.bel
      by_cases hu0 : k = 0
      · subst hu0
        go_wp2_with fail
        refine (A1.out 1 (i64n 1 (by decide) (by decide)) _ PB.out).mono ?_
        rintro e w4 ⟨rfl, hb⟩
        have P4 := Lib.hid (both_below I.turns rg_turns PB.out hb)
        clear hb PB z0 z1 z2 A1
        obtain ⟨z0, z1, z2⟩ := HC.out w4 P4.out.bel
        go_wp2_with fail
        refine (A2.out 1 _ P4.out).mono ?_
        rintro e w5 ⟨rfl, hb⟩
        have P5 := Lib.hid (both_below I.turns rg_turns P4.out hb)
        clear hb P4 z0 z1 z2 A2
        generalize (airZ T 1 m).1 = av at *
        generalize (airZ T 1 m).2 = ac at *
        go_wp2_with fail
        refine (D1.out 1 (i64n 1 (by decide) (by decide)) _ P5.out).mono ?_
        rintro e w6 ⟨v1, rfl, ho, hb⟩
        obtain ⟨qa, da, rfl, _, hra⟩ := rw_own rcells_len ho
        have RA := Lib.hid hra
        have P6 := Lib.hid (both_below I.turns rg_turns P5.out hb)
        clear hb ho hra P5 D1
        go_wp2_with fail
        refine (D2.out 1 _ P6.out).mono ?_
        rintro e w7 ⟨v2, rfl, ho, hb⟩
        obtain ⟨qb, db, rfl, _, hrb⟩ := rw_own rcells_len ho
        have RB := Lib.hid hrb
        have RA7 := Lib.hid (RA.out.keep rcells_len hb)
        have P7 := Lib.hid (both_below I.turns rg_turns P6.out hb)
        have SM := Lib.hid (rsame_rows qa qb da db _ w7 RA7.out RB.out (HS.out 1))
        clear hb ho hrb P6 D2 RA RA7 RB
        go_wp2_with fail
        refine SM.out.mono ?_
        rintro e w8 ⟨rfl, hb⟩
        have P8 := Lib.hid (both_below I.turns rg_turns P7.out hb)
        clear hb P7 SM
        go_wp2_with fail
        refine (NP.out _).mono ?_
        rintro e w9 ⟨rfl, hb⟩
        have P9 := Lib.hid (both_below I.turns rg_turns P8.out hb)
        clear hb P8 NP
        go_wp2_with fail
        refine (NA.out _).mono ?_
        rintro e w10 ⟨rfl, hb⟩
        have P10 := Lib.hid (both_below I.turns rg_turns P9.out (hb.drew))
        clear hb P9 NA
        obtain ⟨z0, z1, z2⟩ := HC.out w10.drew P10.out.bel
        go_wp2_with fail
        refine region_T 61 (fun w' => w'.cell? ⟨w.heap.size, 0, none⟩ = some (.int .i64 lim) ∧ w'.cell? ⟨w.heap.size, 1, none⟩ = some (.slice p n c) ∧ w'.cell? ⟨w.heap.size, 2, none⟩ = some (.int .i64 m)) (by kernel_rfl) ⟨z0, z1, z2⟩ (fun hS => ?_)
        refine oneL (i := 0) (by kernel_rfl) rfl (fun K hK => ?_)
        go_simp
        refine (AL.out _).mono ?_
        rintro e w11 ⟨rfl, hb⟩
        have P11 := Lib.hid (both_below I.turns rg_turns P10.out hb)
        clear hb P10 z0 z1 z2 hS
        obtain ⟨z0, z1, z2⟩ := HC.out w11 P11.out.bel
        refine hK.out _ _ (fun _ => ⟨z0, z1, z2⟩) ?_
        clear hK K
        try simp only [Act.put, List.setIfInBounds_toArray, List.set_cons_zero, List.set_cons_succ]
        have hS := And.intro z0 (And.intro z1 z2)
        refine takeL (i := 1) (v := ?_) rfl (by kernel_rfl) (by kernel_rfl) (by kernel_rfl) (by kernel_rfl) (by kernel_rfl) (fun _ _ _ h => h) (Or.inl ⟨by rfl, ?_⟩) (by assumption) ?_
        rotate_left
        · (intro w' hSw; (try dsimp only at hSw); go_simp; with_reducible rfl)
        try simp only [Act.put, List.setIfInBounds_toArray, List.set_cons_zero, List.set_cons_succ]
        refine takeL (i := 2) (v := ?_) rfl (by kernel_rfl) (by kernel_rfl) (by kernel_rfl) (by kernel_rfl) (by kernel_rfl) (fun _ _ _ h => h) (Or.inl ⟨by rfl, ?_⟩) (by assumption) ?_
        rotate_left
        · (intro w' hSw; (try dsimp only at hSw); go_simp; with_reducible rfl)
        try simp only [Act.put, List.setIfInBounds_toArray, List.set_cons_zero, List.set_cons_succ]
        refine takeL (i := 3) (v := ?_) rfl (by kernel_rfl) (by kernel_rfl) (by kernel_rfl) (by kernel_rfl) (by kernel_rfl) (fun _ _ _ h => h) (Or.inl ⟨by rfl, ?_⟩) (by assumption) ?_
        rotate_left
        · (intro w' hSw; (try dsimp only at hSw); go_simp; with_reducible rfl)
        try simp only [Act.put, List.setIfInBounds_toArray, List.set_cons_zero, List.set_cons_succ]
        refine takeL (i := 4) (v := ?_) rfl (by kernel_rfl) (by kernel_rfl) (by kernel_rfl) (by kernel_rfl) (by kernel_rfl) (fun _ _ _ h => h) (Or.inl ⟨by rfl, ?_⟩) (by assumption) ?_
        rotate_left
        · (intro w' hSw; (try dsimp only at hSw); go_simp; with_reducible rfl)
        try simp only [Act.put, List.setIfInBounds_toArray, List.set_cons_zero, List.set_cons_succ]
        refine takeL (i := 5) (v := ?_) rfl (by kernel_rfl) (by kernel_rfl) (by kernel_rfl) (by kernel_rfl) (by kernel_rfl) (fun _ _ _ h => h) (Or.inl ⟨by rfl, ?_⟩) (by assumption) ?_
        rotate_left
        · (intro w' hSw; (try dsimp only at hSw); go_simp; with_reducible rfl)
        try simp only [Act.put, List.setIfInBounds_toArray, List.set_cons_zero, List.set_cons_succ]
        refine takeL (i := 6) (v := ?_) rfl (by kernel_rfl) (by kernel_rfl) (by kernel_rfl) (by kernel_rfl) (by kernel_rfl) (fun _ _ _ h => h) (Or.inl ⟨by rfl, ?_⟩) (by assumption) ?_
        rotate_left
        · (intro w' hSw; (try dsimp only at hSw); go_simp; with_reducible rfl)
        try simp only [Act.put, List.setIfInBounds_toArray, List.set_cons_zero, List.set_cons_succ]
        refine takeL (i := 7) (v := ?_) rfl (by kernel_rfl) (by kernel_rfl) (by kernel_rfl) (by kernel_rfl) (by kernel_rfl) (fun _ _ _ h => h) (Or.inl ⟨by rfl, ?_⟩) (by assumption) ?_
        rotate_left
        · (intro w' hSw; (try dsimp only at hSw); go_simp; with_reducible rfl)
        try simp only [Act.put, List.setIfInBounds_toArray, List.set_cons_zero, List.set_cons_succ]
        refine takeL (i := 8) (v := ?_) rfl (by kernel_rfl) (by kernel_rfl) (by kernel_rfl) (by kernel_rfl) (by kernel_rfl) (fun _ _ _ h => h) (Or.inl ⟨by rfl, ?_⟩) (by assumption) ?_
        rotate_left
        · (intro w' hSw; (try dsimp only at hSw); go_simp; with_reducible rfl)
        try simp only [Act.put, List.setIfInBounds_toArray, List.set_cons_zero, List.set_cons_succ]
        refine takeL (i := 10) (v := ?_) rfl (by kernel_rfl) (by kernel_rfl) (by kernel_rfl) (by kernel_rfl) (by kernel_rfl) (fun _ _ _ h => h) (Or.inl ⟨by rfl, ?_⟩) (by assumption) ?_
        rotate_left
        · (intro w' hSw; (try dsimp only at hSw); go_simp; with_reducible rfl)
        try simp only [Act.put, List.setIfInBounds_toArray, List.set_cons_zero, List.set_cons_succ]
        refine takeL (i := 11) (v := ?_) rfl (by kernel_rfl) (by kernel_rfl) (by kernel_rfl) (by kernel_rfl) (by kernel_rfl) (fun _ _ _ h => h) (Or.inl ⟨by rfl, ?_⟩) (by assumption) ?_
        rotate_left
        · (intro w' hSw; (try dsimp only at hSw); go_simp; with_reducible rfl)
        try simp only [Act.put, List.setIfInBounds_toArray, List.set_cons_zero, List.set_cons_succ]
        refine takeL (i := 12) (v := ?_) rfl (by kernel_rfl) (by kernel_rfl) (by kernel_rfl) (by kernel_rfl) (by kernel_rfl) (fun _ _ _ h => h) (Or.inl ⟨by rfl, ?_⟩) (by assumption) ?_
        rotate_left
        · (intro w' hSw; (try dsimp only at hSw); go_simp; with_reducible rfl)
        try simp only [Act.put, List.setIfInBounds_toArray, List.set_cons_zero, List.set_cons_succ]
        refine takeL (i := 13) (v := ?_) rfl (by kernel_rfl) (by kernel_rfl) (by kernel_rfl) (by kernel_rfl) (by kernel_rfl) (fun _ _ _ h => h) (Or.inl ⟨by rfl, ?_⟩) (by assumption) ?_
        rotate_left
        · (intro w' hSw; (try dsimp only at hSw); go_simp; with_reducible rfl)
        try simp only [Act.put, List.setIfInBounds_toArray, List.set_cons_zero, List.set_cons_succ]
        refine takeL (i := 14) (v := ?_) rfl (by kernel_rfl) (by kernel_rfl) (by kernel_rfl) (by kernel_rfl) (by kernel_rfl) (fun _ _ _ h => h) (Or.inl ⟨by rfl, ?_⟩) (by assumption) ?_
        rotate_left
        · (intro w' hSw; (try dsimp only at hSw); go_simp; with_reducible rfl)
        try simp only [Act.put, List.setIfInBounds_toArray, List.set_cons_zero, List.set_cons_succ]
        refine takeL (i := 15) (v := ?_) rfl (by kernel_rfl) (by kernel_rfl) (by kernel_rfl) (by kernel_rfl) (by kernel_rfl) (fun _ _ _ h => h) (Or.inl ⟨by rfl, ?_⟩) (by assumption) ?_
        rotate_left
        · (intro w' hSw; (try dsimp only at hSw); go_simp; with_reducible rfl)
        try simp only [Act.put, List.setIfInBounds_toArray, List.set_cons_zero, List.set_cons_succ]
        refine takeL (i := 16) (v := ?_) rfl (by kernel_rfl) (by kernel_rfl) (by kernel_rfl) (by kernel_rfl) (by kernel_rfl) (fun _ _ _ h => h) (Or.inl ⟨by rfl, ?_⟩) (by assumption) ?_
        rotate_left
        · (intro w' hSw; (try dsimp only at hSw); go_simp; with_reducible rfl)
        try simp only [Act.put, List.setIfInBounds_toArray, List.set_cons_zero, List.set_cons_succ]
        refine oneL (i := 9) (by kernel_rfl) rfl (fun K hK => ?_)
        go_simp
        refine (XE.out _ P11.out).mono ?_
        rintro e w12 ⟨rfl, hb, _⟩
        have P12 := Lib.hid hb
        clear hb P11 z0 z1 z2 hS
        obtain ⟨z0, z1, z2⟩ := HC.out w12 P12.out.bel
        refine hK.out _ _ (fun _ => ⟨z0, z1, z2⟩) ?_
        clear hK K
        try simp only [Act.put, List.setIfInBounds_toArray, List.set_cons_zero, List.set_cons_succ]
        have hS := And.intro z0 (And.intro z1 z2)
        refine oneL (i := 17) (by kernel_rfl) rfl (fun K hK => ?_)
        go_simp
        refine (YE.out _ P12.out).mono ?_
        rintro e w13 ⟨rfl, hb⟩
        have P13 := Lib.hid (both_below I.turns rg_turns P12.out hb)
        clear hb P12 z0 z1 z2 hS
        obtain ⟨z0, z1, z2⟩ := HC.out w13 P13.out.bel
        refine hK.out _ _ (fun _ => ⟨z0, z1, z2⟩) ?_
        clear hK K
        try simp only [Act.put, List.setIfInBounds_toArray, List.set_cons_zero, List.set_cons_succ]
        have hS := And.intro z0 (And.intro z1 z2)
        have tex : (ex == ex) = true := by simp
        have tav : (av == av) = true := by simp
        have tac : (((ac : Nat) : Int) == ((ac : Nat) : Int)) = true := by simp
        refine takeL (i := 18) (v := ?_) rfl (by kernel_rfl) (by kernel_rfl) (by kernel_rfl) (by kernel_rfl) (by kernel_rfl) (fun _ _ _ h => h) (Or.inl ⟨by rfl, ?_⟩) (by assumption) ?_
        rotate_left
        · (intro w' hSw; (try dsimp only at hSw); go_simp; with_reducible rfl)
        try simp only [Act.put, List.setIfInBounds_toArray, List.set_cons_zero, List.set_cons_succ]
        refine takeL (i := 19) (v := ?_) rfl (by kernel_rfl) (by kernel_rfl) (by kernel_rfl) (by kernel_rfl) (by kernel_rfl) (fun _ _ _ h => h) (Or.inl ⟨by rfl, ?_⟩) (by assumption) ?_
        rotate_left
        · (intro w' hSw; (try dsimp only at hSw); go_simp; with_reducible rfl)
        try simp only [Act.put, List.setIfInBounds_toArray, List.set_cons_zero, List.set_cons_succ]
        refine takeL (i := 20) (v := ?_) rfl (by kernel_rfl) (by kernel_rfl) (by kernel_rfl) (by kernel_rfl) (by kernel_rfl) (fun _ _ _ h => h) (Or.inl ⟨by rfl, ?_⟩) (by assumption) ?_
        rotate_left
        · (intro w' hSw; (try dsimp only at hSw); go_simp; with_reducible rfl)
        try simp only [Act.put, List.setIfInBounds_toArray, List.set_cons_zero, List.set_cons_succ]
        refine takeL (i := 21) (v := ?_) rfl (by kernel_rfl) (by kernel_rfl) (by kernel_rfl) (by kernel_rfl) (by kernel_rfl) (fun _ _ _ h => h) (Or.inl ⟨by rfl, ?_⟩) (by assumption) ?_
        rotate_left
        · (intro w' hSw; (try dsimp only at hSw); go_simp; with_reducible rfl)
        try simp only [Act.put, List.setIfInBounds_toArray, List.set_cons_zero, List.set_cons_succ]
        refine takeL (i := 22) (v := ?_) rfl (by kernel_rfl) (by kernel_rfl) (by kernel_rfl) (by kernel_rfl) (by kernel_rfl) (fun _ _ _ h => h) (Or.inl ⟨by rfl, ?_⟩) (by assumption) ?_
        rotate_left
        · (intro w' hSw; (try dsimp only at hSw); go_simp; with_reducible rfl)
        try simp only [Act.put, List.setIfInBounds_toArray, List.set_cons_zero, List.set_cons_succ]
        refine takeL (i := 23) (v := ?_) rfl (by kernel_rfl) (by kernel_rfl) (by kernel_rfl) (by kernel_rfl) (by kernel_rfl) (fun _ _ _ h => h) (Or.inl ⟨by rfl, ?_⟩) (by assumption) ?_
        rotate_left
        · (intro w' hSw; (try dsimp only at hSw); go_simp; with_reducible rfl)
        try simp only [Act.put, List.setIfInBounds_toArray, List.set_cons_zero, List.set_cons_succ]
        refine takeL (i := 24) (v := ?_) rfl (by kernel_rfl) (by kernel_rfl) (by kernel_rfl) (by kernel_rfl) (by kernel_rfl) (fun _ _ _ h => h) (Or.inl ⟨by rfl, ?_⟩) (by assumption) ?_
        rotate_left
        · (intro w' hSw; (try dsimp only at hSw); go_simp; with_reducible rfl)
        try simp only [Act.put, List.setIfInBounds_toArray, List.set_cons_zero, List.set_cons_succ]
        refine takeL (i := 25) (v := ?_) rfl (by kernel_rfl) (by kernel_rfl) (by kernel_rfl) (by kernel_rfl) (by kernel_rfl) (fun _ _ _ h => h) (Or.inl ⟨by rfl, ?_⟩) (by assumption) ?_
        rotate_left
        · (intro w' hSw; (try dsimp only at hSw); go_simp; with_reducible rfl)
        try simp only [Act.put, List.setIfInBounds_toArray, List.set_cons_zero, List.set_cons_succ]
        refine takeL (i := 26) (v := ?_) rfl (by kernel_rfl) (by kernel_rfl) (by kernel_rfl) (by kernel_rfl) (by kernel_rfl) (fun _ _ _ h => h) (Or.inl ⟨by rfl, ?_⟩) (by assumption) ?_
        rotate_left
        · (intro w' hSw; (try dsimp only at hSw); go_simp; with_reducible rfl)
        try simp only [Act.put, List.setIfInBounds_toArray, List.set_cons_zero, List.set_cons_succ]
        refine takeL (i := 27) (v := ?_) rfl (by kernel_rfl) (by kernel_rfl) (by kernel_rfl) (by kernel_rfl) (by kernel_rfl) (fun _ _ _ h => h) (Or.inl ⟨by rfl, ?_⟩) (by assumption) ?_
        rotate_left
        · (intro w' hSw; (try dsimp only at hSw); go_simp; with_reducible rfl)
        try simp only [Act.put, List.setIfInBounds_toArray, List.set_cons_zero, List.set_cons_succ]
        refine takeL (i := 28) (v := ?_) rfl (by kernel_rfl) (by kernel_rfl) (by kernel_rfl) (by kernel_rfl) (by kernel_rfl) (fun _ _ _ h => h) (Or.inl ⟨by rfl, ?_⟩) (by assumption) ?_
        rotate_left
        · (intro w' hSw; (try dsimp only at hSw); go_simp; with_reducible rfl)
        try simp only [Act.put, List.setIfInBounds_toArray, List.set_cons_zero, List.set_cons_succ]
        refine takeL (i := 29) (v := ?_) rfl (by kernel_rfl) (by kernel_rfl) (by kernel_rfl) (by kernel_rfl) (by kernel_rfl) (fun _ _ _ h => h) (Or.inl ⟨by rfl, ?_⟩) (by assumption) ?_
        rotate_left
        · (intro w' hSw; (try dsimp only at hSw); go_simp; with_reducible rfl)
        try simp only [Act.put, List.setIfInBounds_toArray, List.set_cons_zero, List.set_cons_succ]
        refine takeL (i := 30) (v := ?_) rfl (by kernel_rfl) (by kernel_rfl) (by kernel_rfl) (by kernel_rfl) (by kernel_rfl) (fun _ _ _ h => h) (Or.inl ⟨by rfl, ?_⟩) (by assumption) ?_
        rotate_left
        · (intro w' hSw; (try dsimp only at hSw); go_simp; with_reducible rfl)
        try simp only [Act.put, List.setIfInBounds_toArray, List.set_cons_zero, List.set_cons_succ]
        refine takeL (i := 31) (v := ?_) rfl (by kernel_rfl) (by kernel_rfl) (by kernel_rfl) (by kernel_rfl) (by kernel_rfl) (fun _ _ _ h => h) (Or.inl ⟨by rfl, ?_⟩) (by assumption) ?_
        rotate_left
        · (intro w' hSw; (try dsimp only at hSw); go_simp; with_reducible rfl)
        try simp only [Act.put, List.setIfInBounds_toArray, List.set_cons_zero, List.set_cons_succ]
        refine takeL (i := 32) (v := ?_) rfl (by kernel_rfl) (by kernel_rfl) (by kernel_rfl) (by kernel_rfl) (by kernel_rfl) (fun _ _ _ h => h) (Or.inl ⟨by rfl, ?_⟩) (by assumption) ?_
        rotate_left
        · (intro w' hSw; (try dsimp only at hSw); go_simp; with_reducible rfl)
        try simp only [Act.put, List.setIfInBounds_toArray, List.set_cons_zero, List.set_cons_succ]
        refine takeL (i := 33) (v := ?_) rfl (by kernel_rfl) (by kernel_rfl) (by kernel_rfl) (by kernel_rfl) (by kernel_rfl) (fun _ _ _ h => h) (Or.inl ⟨by rfl, ?_⟩) (by assumption) ?_
        rotate_left
        · (intro w' hSw; (try dsimp only at hSw); go_simp; with_reducible rfl)
        try simp only [Act.put, List.setIfInBounds_toArray, List.set_cons_zero, List.set_cons_succ]
        refine takeL (i := 34) (v := ?_) rfl (by kernel_rfl) (by kernel_rfl) (by kernel_rfl) (by kernel_rfl) (by kernel_rfl) (fun _ _ _ h => h) (Or.inl ⟨by rfl, ?_⟩) (by assumption) ?_
        rotate_left
        · (intro w' hSw; (try dsimp only at hSw); go_simp; with_reducible rfl)
        try simp only [Act.put, List.setIfInBounds_toArray, List.set_cons_zero, List.set_cons_succ]
        refine takeL (i := 35) (v := ?_) rfl (by kernel_rfl) (by kernel_rfl) (by kernel_rfl) (by kernel_rfl) (by kernel_rfl) (fun _ _ _ h => h) (Or.inl ⟨by rfl, ?_⟩) (by assumption) ?_
        rotate_left
        · (intro w' hSw; (try dsimp only at hSw); go_simp; with_reducible rfl)
        try simp only [Act.put, List.setIfInBounds_toArray, List.set_cons_zero, List.set_cons_succ]
        refine takeL (i := 36) (v := ?_) rfl (by kernel_rfl) (by kernel_rfl) (by kernel_rfl) (by kernel_rfl) (by kernel_rfl) (fun _ _ _ h => h) (Or.inl ⟨by rfl, ?_⟩) (by assumption) ?_
        rotate_left
        · (intro w' hSw; (try dsimp only at hSw); go_simp; with_reducible rfl)
        try simp only [Act.put, List.setIfInBounds_toArray, List.set_cons_zero, List.set_cons_succ]
        refine takeL (i := 37) (v := ?_) rfl (by kernel_rfl) (by kernel_rfl) (by kernel_rfl) (by kernel_rfl) (by kernel_rfl) (fun _ _ _ h => h) (Or.inl ⟨by rfl, ?_⟩) (by assumption) ?_
        rotate_left
        · (intro w' hSw; (try dsimp only at hSw); go_simp; with_reducible rfl)
        try simp only [Act.put, List.setIfInBounds_toArray, List.set_cons_zero, List.set_cons_succ]
        refine takeL (i := 38) (v := ?_) rfl (by kernel_rfl) (by kernel_rfl) (by kernel_rfl) (by kernel_rfl) (by kernel_rfl) (fun _ _ _ h => h) (Or.inl ⟨by rfl, ?_⟩) (by assumption) ?_
        rotate_left
        · (intro w' hSw; (try dsimp only at hSw); go_simp; with_reducible rfl)
        try simp only [Act.put, List.setIfInBounds_toArray, List.set_cons_zero, List.set_cons_succ]
        refine takeL (i := 39) (v := ?_) rfl (by kernel_rfl) (by kernel_rfl) (by kernel_rfl) (by kernel_rfl) (by kernel_rfl) (fun _ _ _ h => h) (Or.inl ⟨by rfl, ?_⟩) (by assumption) ?_
        rotate_left
        · (intro w' hSw; (try dsimp only at hSw); go_simp; with_reducible rfl)
        try simp only [Act.put, List.setIfInBounds_toArray, List.set_cons_zero, List.set_cons_succ]
        refine takeL (i := 40) (v := ?_) rfl (by kernel_rfl) (by kernel_rfl) (by kernel_rfl) (by kernel_rfl) (by kernel_rfl) (fun _ _ _ h => h) (Or.inl ⟨by rfl, ?_⟩) (by assumption) ?_
        rotate_left
        · (intro w' hSw; (try dsimp only at hSw); go_simp; with_reducible rfl)
        try simp only [Act.put, List.setIfInBounds_toArray, List.set_cons_zero, List.set_cons_succ]
        refine takeL (i := 41) (v := ?_) rfl (by kernel_rfl) (by kernel_rfl) (by kernel_rfl) (by kernel_rfl) (by kernel_rfl) (fun _ _ _ h => h) (Or.inl ⟨by rfl, ?_⟩) (by assumption) ?_
        rotate_left
        · (intro w' hSw; (try dsimp only at hSw); go_simp; with_reducible rfl)
        try simp only [Act.put, List.setIfInBounds_toArray, List.set_cons_zero, List.set_cons_succ]
        refine takeL (i := 42) (v := ?_) rfl (by kernel_rfl) (by kernel_rfl) (by kernel_rfl) (by kernel_rfl) (by kernel_rfl) (fun _ _ _ h => h) (Or.inl ⟨by rfl, ?_⟩) (by assumption) ?_
        rotate_left
        · (intro w' hSw; (try dsimp only at hSw); go_simp; with_reducible rfl)
        try simp only [Act.put, List.setIfInBounds_toArray, List.set_cons_zero, List.set_cons_succ]
        refine takeL (i := 43) (v := ?_) rfl (by kernel_rfl) (by kernel_rfl) (by kernel_rfl) (by kernel_rfl) (by kernel_rfl) (fun _ _ _ h => h) (Or.inl ⟨by rfl, ?_⟩) (by assumption) ?_
        rotate_left
        · (intro w' hSw; (try dsimp only at hSw); go_simp; with_reducible rfl)
        try simp only [Act.put, List.setIfInBounds_toArray, List.set_cons_zero, List.set_cons_succ]
        refine oneL (i := 44) (by kernel_rfl) rfl (fun K hK => ?_)
        go_simp
        refine (NZ.out _).mono ?_
        rintro e w14 ⟨rfl, hb⟩
        have P14 := Lib.hid (both_below I.turns rg_turns P13.out hb)
        clear hb P13 z0 z1 z2 hS
        obtain ⟨z0, z1, z2⟩ := HC.out w14 P14.out.bel
        refine hK.out _ _ (fun _ => ⟨z0, z1, z2⟩) ?_
        clear hK K
        try simp only [Act.put, List.setIfInBounds_toArray, List.set_cons_zero, List.set_cons_succ]
        have hS := And.intro z0 (And.intro z1 z2)
        refine takeL (i := 45) (v := ?_) rfl (by kernel_rfl) (by kernel_rfl) (by kernel_rfl) (by kernel_rfl) (by kernel_rfl) (fun _ _ _ h => h) (Or.inl ⟨by rfl, ?_⟩) (by assumption) ?_
        rotate_left
        · (intro w' hSw; (try dsimp only at hSw); go_simp; with_reducible rfl)
        try simp only [Act.put, List.setIfInBounds_toArray, List.set_cons_zero, List.set_cons_succ]
        refine takeL (i := 46) (v := ?_) rfl (by kernel_rfl) (by kernel_rfl) (by kernel_rfl) (by kernel_rfl) (by kernel_rfl) (fun _ _ _ h => h) (Or.inl ⟨by rfl, ?_⟩) (by assumption) ?_
        rotate_left
        · (intro w' hSw; (try dsimp only at hSw); go_simp; with_reducible rfl)
        try simp only [Act.put, List.setIfInBounds_toArray, List.set_cons_zero, List.set_cons_succ]
        refine takeL (i := 47) (v := ?_) rfl (by kernel_rfl) (by kernel_rfl) (by kernel_rfl) (by kernel_rfl) (by kernel_rfl) (fun _ _ _ h => h) (Or.inl ⟨by rfl, ?_⟩) (by assumption) ?_
        rotate_left
        · (intro w' hSw; (try dsimp only at hSw); go_simp; with_reducible rfl)
        try simp only [Act.put, List.setIfInBounds_toArray, List.set_cons_zero, List.set_cons_succ]
        refine takeL (i := 48) (v := ?_) rfl (by kernel_rfl) (by kernel_rfl) (by kernel_rfl) (by kernel_rfl) (by kernel_rfl) (fun _ _ _ h => h) (Or.inl ⟨by rfl, ?_⟩) (by assumption) ?_
        rotate_left
        · (intro w' hSw; (try dsimp only at hSw); go_simp; with_reducible rfl)
        try simp only [Act.put, List.setIfInBounds_toArray, List.set_cons_zero, List.set_cons_succ]
        refine takeL (i := 49) (v := ?_) rfl (by kernel_rfl) (by kernel_rfl) (by kernel_rfl) (by kernel_rfl) (by kernel_rfl) (fun _ _ _ h => h) (Or.inl ⟨by rfl, ?_⟩) (by assumption) ?_
        rotate_left
        · (intro w' hSw; (try dsimp only at hSw); go_simp; with_reducible rfl)
        try simp only [Act.put, List.setIfInBounds_toArray, List.set_cons_zero, List.set_cons_succ]
        refine takeL (i := 50) (v := ?_) rfl (by kernel_rfl) (by kernel_rfl) (by kernel_rfl) (by kernel_rfl) (by kernel_rfl) (fun _ _ _ h => h) (Or.inl ⟨by rfl, ?_⟩) (by assumption) ?_
        rotate_left
        · (intro w' hSw; (try dsimp only at hSw); go_simp; with_reducible rfl)
        try simp only [Act.put, List.setIfInBounds_toArray, List.set_cons_zero, List.set_cons_succ]
        refine oneL (i := 51) (by kernel_rfl) rfl (fun K hK => ?_)
        go_simp
        refine (NE.out _ P14.out).mono ?_
        rintro e w15 ⟨rfl, hb⟩
        have P15 := Lib.hid (both_below I.turns rg_turns P14.out hb)
        clear hb P14 z0 z1 z2 hS
        obtain ⟨z0, z1, z2⟩ := HC.out w15 P15.out.bel
        refine hK.out _ _ (fun _ => ⟨z0, z1, z2⟩) ?_
        clear hK K
        try simp only [Act.put, List.setIfInBounds_toArray, List.set_cons_zero, List.set_cons_succ]
        have hS := And.intro z0 (And.intro z1 z2)
        refine takeL (i := 52) (v := ?_) rfl (by kernel_rfl) (by kernel_rfl) (by kernel_rfl) (by kernel_rfl) (by kernel_rfl) (fun _ _ _ h => h) (Or.inl ⟨by rfl, ?_⟩) (by assumption) ?_
        rotate_left
        · (intro w' hSw; (try dsimp only at hSw); go_simp; with_reducible rfl)
        try simp only [Act.put, List.setIfInBounds_toArray, List.set_cons_zero, List.set_cons_succ]
        refine takeL (i := 53) (v := ?_) rfl (by kernel_rfl) (by kernel_rfl) (by kernel_rfl) (by kernel_rfl) (by kernel_rfl) (fun _ _ _ h => h) (Or.inl ⟨by rfl, ?_⟩) (by assumption) ?_
        rotate_left
        · (intro w' hSw; (try dsimp only at hSw); go_simp; with_reducible rfl)
        try simp only [Act.put, List.setIfInBounds_toArray, List.set_cons_zero, List.set_cons_succ]
        refine takeL (i := 54) (v := ?_) rfl (by kernel_rfl) (by kernel_rfl) (by kernel_rfl) (by kernel_rfl) (by kernel_rfl) (fun _ _ _ h => h) (Or.inl ⟨by rfl, ?_⟩) (by assumption) ?_
        rotate_left
        · (intro w' hSw; (try dsimp only at hSw); go_simp; with_reducible rfl)
        try simp only [Act.put, List.setIfInBounds_toArray, List.set_cons_zero, List.set_cons_succ]
        refine takeL (i := 55) (v := ?_) rfl (by kernel_rfl) (by kernel_rfl) (by kernel_rfl) (by kernel_rfl) (by kernel_rfl) (fun _ _ _ h => h) (Or.inl ⟨by rfl, ?_⟩) (by assumption) ?_
        rotate_left
        · (intro w' hSw; (try dsimp only at hSw); go_simp; with_reducible rfl)
        try simp only [Act.put, List.setIfInBounds_toArray, List.set_cons_zero, List.set_cons_succ]
        refine oneL (i := 56) (by kernel_rfl) rfl (fun K hK => ?_)
        go_simp
        refine (ND.out _).mono ?_
        rintro e w16 ⟨⟨px, cx, rfl⟩, hb⟩
        have P16 := Lib.hid (both_below I.turns rg_turns P15.out hb)
        clear hb P15 z0 z1 z2 hS
        obtain ⟨z0, z1, z2⟩ := HC.out w16 P16.out.bel
        refine hK.out _ _ (fun _ => ⟨z0, z1, z2⟩) ?_
        clear hK K
        try simp only [Act.put, List.setIfInBounds_toArray, List.set_cons_zero, List.set_cons_succ]
        have hS := And.intro z0 (And.intro z1 z2)
        refine takeL (i := 57) (v := ?_) rfl (by kernel_rfl) (by kernel_rfl) (by kernel_rfl) (by kernel_rfl) (by kernel_rfl) (fun _ _ _ h => h) (Or.inl ⟨by rfl, ?_⟩) (by assumption) ?_
        rotate_left
        · (intro w' hSw; (try dsimp only at hSw); go_simp; with_reducible rfl)
        try simp only [Act.put, List.setIfInBounds_toArray, List.set_cons_zero, List.set_cons_succ]
        refine takeL (i := 58) (v := ?_) rfl (by kernel_rfl) (by kernel_rfl) (by kernel_rfl) (by kernel_rfl) (by kernel_rfl) (fun _ _ _ h => h) (Or.inl ⟨by rfl, ?_⟩) (by assumption) ?_
        rotate_left
        · (intro w' hSw; (try dsimp only at hSw); go_simp; with_reducible rfl)
        try simp only [Act.put, List.setIfInBounds_toArray, List.set_cons_zero, List.set_cons_succ]
        refine takeL (i := 59) (v := ?_) rfl (by kernel_rfl) (by kernel_rfl) (by kernel_rfl) (by kernel_rfl) (by kernel_rfl) (fun _ _ _ h => h) (Or.inl ⟨by rfl, ?_⟩) (by assumption) ?_
        rotate_left
        · (intro w' hSw; (try dsimp only at hSw); go_simp; with_reducible rfl)
        try simp only [Act.put, List.setIfInBounds_toArray, List.set_cons_zero, List.set_cons_succ]
        refine takeL (i := 60) (v := ?_) rfl (by kernel_rfl) (by kernel_rfl) (by kernel_rfl) (by kernel_rfl) (by kernel_rfl) (fun _ _ _ h => h) (Or.inl ⟨by rfl, ?_⟩) (by assumption) ?_
        rotate_left
        · (intro w' hSw; (try dsimp only at hSw); go_simp; with_reducible rfl)
        try simp only [Act.put, List.setIfInBounds_toArray, List.set_cons_zero, List.set_cons_succ]
        refine doneO (by kernel_rfl) ?_ _
        clear hS z0 z1 z2
        go_wp2
        go_ret
        exact ⟨rfl, HB.out _ P16.out.bel⟩
      · have hk0 : (0 : Int) < (k : Int) := by omega
        have t0 : decide ((k : Int) > 0) = true := by simp; omega
        obtain ⟨x, hx⟩ : ∃ x, l[0]? = some x := ⟨_, List.getElem?_eq_getElem (by rw [HLn.out]; omega)⟩
        obtain ⟨b, o, e, hc⟩ := HU.out.2 (by omega)
        subst e
        have h00 := hc 0 x hx 0 (by decide)
        have HXI := Lib.hid (HUI.out x (List.mem_of_getElem? hx))
        have x0 : wr.cell? ⟨b, o, none⟩ = some (.int .i64 x.1) := by
          have hb0 := World.block_lt_of_cell? w _ (h00.trans (by rfl : (ucells x)[0]? = some (.int .i64 x.1)))
          have := ((HB.out wr PB.out.bel).cell (p := ⟨b, o + 0 * 4 + 0, none⟩) hb0).trans h00
          simpa [ucells] using this
        clear hc hx h00
        generalize x.1 = xz at *
        go_wp2_with fail
        refine (A1.out xz HXI.out _ PB.out).mono ?_
        rintro e w4 ⟨rfl, hb⟩
        have P4 := Lib.hid (both_below I.turns rg_turns PB.out hb)
        clear hb PB z0 z1 z2 A1
        obtain ⟨z0, z1, z2⟩ := HC.out w4 P4.out.bel
        go_wp2_with fail
        refine (A2.out xz _ P4.out).mono ?_
        rintro e w5 ⟨rfl, hb⟩
        have P5 := Lib.hid (both_below I.turns rg_turns P4.out hb)
        clear hb P4 z0 z1 z2 A2
        generalize (airZ T xz m).1 = av at *
        generalize (airZ T xz m).2 = ac at *
        go_wp2_with fail
        refine (D1.out xz HXI.out _ P5.out).mono ?_
        rintro e w6 ⟨v1, rfl, ho, hb⟩
        obtain ⟨qa, da, rfl, _, hra⟩ := rw_own rcells_len ho
        have RA := Lib.hid hra
        have P6 := Lib.hid (both_below I.turns rg_turns P5.out hb)
        clear hb ho hra P5 D1
        go_wp2_with fail
        refine (D2.out xz _ P6.out).mono ?_
        rintro e w7 ⟨v2, rfl, ho, hb⟩
        obtain ⟨qb, db, rfl, _, hrb⟩ := rw_own rcells_len ho
        have RB := Lib.hid hrb
        have RA7 := Lib.hid (RA.out.keep rcells_len hb)
        have P7 := Lib.hid (both_below I.turns rg_turns P6.out hb)
        have SM := Lib.hid (rsame_rows qa qb da db _ w7 RA7.out RB.out (HS.out xz))
        clear hb ho hrb P6 D2 RA RA7 RB
        go_wp2_with fail
        refine SM.out.mono ?_
        rintro e w8 ⟨rfl, hb⟩
        have P8 := Lib.hid (both_below I.turns rg_turns P7.out hb)
        clear hb P7 SM
        go_wp2_with fail
        refine (NP.out _).mono ?_
        rintro e w9 ⟨rfl, hb⟩
        have P9 := Lib.hid (both_below I.turns rg_turns P8.out hb)
        clear hb P8 NP
        go_wp2_with fail
        refine (NA.out _).mono ?_
        rintro e w10 ⟨rfl, hb⟩
        have P10 := Lib.hid (both_below I.turns rg_turns P9.out (hb.drew))
        clear hb P9 NA
        obtain ⟨z0, z1, z2⟩ := HC.out w10.drew P10.out.bel
        go_wp2_with fail
        refine region_T 61 (fun w' => w'.cell? ⟨w.heap.size, 0, none⟩ = some (.int .i64 lim) ∧ w'.cell? ⟨w.heap.size, 1, none⟩ = some (.slice p n c) ∧ w'.cell? ⟨w.heap.size, 2, none⟩ = some (.int .i64 m)) (by kernel_rfl) ⟨z0, z1, z2⟩ (fun hS => ?_)
        refine oneL (i := 0) (by kernel_rfl) rfl (fun K hK => ?_)
        go_simp
        refine (AL.out _).mono ?_
        rintro e w11 ⟨rfl, hb⟩
        have P11 := Lib.hid (both_below I.turns rg_turns P10.out hb)
        clear hb P10 z0 z1 z2 hS
        obtain ⟨z0, z1, z2⟩ := HC.out w11 P11.out.bel
        refine hK.out _ _ (fun _ => ⟨z0, z1, z2⟩) ?_
        clear hK K
        try simp only [Act.put, List.setIfInBounds_toArray, List.set_cons_zero, List.set_cons_succ]
        have hS := And.intro z0 (And.intro z1 z2)
        refine takeL (i := 1) (v := ?_) rfl (by kernel_rfl) (by kernel_rfl) (by kernel_rfl) (by kernel_rfl) (by kernel_rfl) (fun _ _ _ h => h) (Or.inl ⟨by rfl, ?_⟩) (by assumption) ?_
        rotate_left
        · (intro w' hSw; (try dsimp only at hSw); go_simp; with_reducible rfl)
        try simp only [Act.put, List.setIfInBounds_toArray, List.set_cons_zero, List.set_cons_succ]
        refine takeL (i := 2) (v := ?_) rfl (by kernel_rfl) (by kernel_rfl) (by kernel_rfl) (by kernel_rfl) (by kernel_rfl) (fun _ _ _ h => h) (Or.inl ⟨by rfl, ?_⟩) (by assumption) ?_
        rotate_left
        · (intro w' hSw; (try dsimp only at hSw); go_simp; with_reducible rfl)
        try simp only [Act.put, List.setIfInBounds_toArray, List.set_cons_zero, List.set_cons_succ]
        refine takeL (i := 3) (v := ?_) rfl (by kernel_rfl) (by kernel_rfl) (by kernel_rfl) (by kernel_rfl) (by kernel_rfl) (fun _ _ _ h => h) (Or.inl ⟨by rfl, ?_⟩) (by assumption) ?_
        rotate_left
        · (intro w' hSw; (try dsimp only at hSw); go_simp; with_reducible rfl)
        try simp only [Act.put, List.setIfInBounds_toArray, List.set_cons_zero, List.set_cons_succ]
        refine takeL (i := 4) (v := ?_) rfl (by kernel_rfl) (by kernel_rfl) (by kernel_rfl) (by kernel_rfl) (by kernel_rfl) (fun _ _ _ h => h) (Or.inl ⟨by rfl, ?_⟩) (by assumption) ?_
        rotate_left
        · (intro w' hSw; (try dsimp only at hSw); go_simp; with_reducible rfl)
        try simp only [Act.put, List.setIfInBounds_toArray, List.set_cons_zero, List.set_cons_succ]
        refine takeL (i := 5) (v := ?_) rfl (by kernel_rfl) (by kernel_rfl) (by kernel_rfl) (by kernel_rfl) (by kernel_rfl) (fun _ _ _ h => h) (Or.inl ⟨by rfl, ?_⟩) (by assumption) ?_
        rotate_left
        · (intro w' hSw; (try dsimp only at hSw); go_simp; with_reducible rfl)
        try simp only [Act.put, List.setIfInBounds_toArray, List.set_cons_zero, List.set_cons_succ]
        refine takeL (i := 6) (v := ?_) rfl (by kernel_rfl) (by kernel_rfl) (by kernel_rfl) (by kernel_rfl) (by kernel_rfl) (fun _ _ _ h => h) (Or.inl ⟨by rfl, ?_⟩) (by assumption) ?_
        rotate_left
        · (intro w' hSw; (try dsimp only at hSw); go_simp; with_reducible rfl)
        try simp only [Act.put, List.setIfInBounds_toArray, List.set_cons_zero, List.set_cons_succ]
        refine takeL (i := 7) (v := ?_) rfl (by kernel_rfl) (by kernel_rfl) (by kernel_rfl) (by kernel_rfl) (by kernel_rfl) (fun _ _ _ h => h) (Or.inl ⟨by rfl, ?_⟩) (by assumption) ?_
        rotate_left
        · (intro w' hSw; (try dsimp only at hSw); go_simp; with_reducible rfl)
        try simp only [Act.put, List.setIfInBounds_toArray, List.set_cons_zero, List.set_cons_succ]
        refine takeL (i := 8) (v := ?_) rfl (by kernel_rfl) (by kernel_rfl) (by kernel_rfl) (by kernel_rfl) (by kernel_rfl) (fun _ _ _ h => h) (Or.inl ⟨by rfl, ?_⟩) (by assumption) ?_
        rotate_left
        · (intro w' hSw; (try dsimp only at hSw); go_simp; with_reducible rfl)
        try simp only [Act.put, List.setIfInBounds_toArray, List.set_cons_zero, List.set_cons_succ]
        refine takeL (i := 10) (v := ?_) rfl (by kernel_rfl) (by kernel_rfl) (by kernel_rfl) (by kernel_rfl) (by kernel_rfl) (fun _ _ _ h => h) (Or.inl ⟨by rfl, ?_⟩) (by assumption) ?_
        rotate_left
        · (intro w' hSw; (try dsimp only at hSw); go_simp; with_reducible rfl)
        try simp only [Act.put, List.setIfInBounds_toArray, List.set_cons_zero, List.set_cons_succ]
        refine takeL (i := 11) (v := ?_) rfl (by kernel_rfl) (by kernel_rfl) (by kernel_rfl) (by kernel_rfl) (by kernel_rfl) (fun _ _ _ h => h) (Or.inl ⟨by rfl, ?_⟩) (by assumption) ?_
        rotate_left
        · (intro w' hSw; (try dsimp only at hSw); go_simp; with_reducible rfl)
        try simp only [Act.put, List.setIfInBounds_toArray, List.set_cons_zero, List.set_cons_succ]
        refine takeL (i := 12) (v := ?_) rfl (by kernel_rfl) (by kernel_rfl) (by kernel_rfl) (by kernel_rfl) (by kernel_rfl) (fun _ _ _ h => h) (Or.inl ⟨by rfl, ?_⟩) (by assumption) ?_
        rotate_left
        · (intro w' hSw; (try dsimp only at hSw); go_simp; with_reducible rfl)
        try simp only [Act.put, List.setIfInBounds_toArray, List.set_cons_zero, List.set_cons_succ]
        refine takeL (i := 13) (v := ?_) rfl (by kernel_rfl) (by kernel_rfl) (by kernel_rfl) (by kernel_rfl) (by kernel_rfl) (fun _ _ _ h => h) (Or.inl ⟨by rfl, ?_⟩) (by assumption) ?_
        rotate_left
        · (intro w' hSw; (try dsimp only at hSw); go_simp; with_reducible rfl)
        try simp only [Act.put, List.setIfInBounds_toArray, List.set_cons_zero, List.set_cons_succ]
        refine takeL (i := 14) (v := ?_) rfl (by kernel_rfl) (by kernel_rfl) (by kernel_rfl) (by kernel_rfl) (by kernel_rfl) (fun _ _ _ h => h) (Or.inl ⟨by rfl, ?_⟩) (by assumption) ?_
        rotate_left
        · (intro w' hSw; (try dsimp only at hSw); go_simp; with_reducible rfl)
        try simp only [Act.put, List.setIfInBounds_toArray, List.set_cons_zero, List.set_cons_succ]
        refine takeL (i := 15) (v := ?_) rfl (by kernel_rfl) (by kernel_rfl) (by kernel_rfl) (by kernel_rfl) (by kernel_rfl) (fun _ _ _ h => h) (Or.inl ⟨by rfl, ?_⟩) (by assumption) ?_
        rotate_left
        · (intro w' hSw; (try dsimp only at hSw); go_simp; with_reducible rfl)
        try simp only [Act.put, List.setIfInBounds_toArray, List.set_cons_zero, List.set_cons_succ]
        refine takeL (i := 16) (v := ?_) rfl (by kernel_rfl) (by kernel_rfl) (by kernel_rfl) (by kernel_rfl) (by kernel_rfl) (fun _ _ _ h => h) (Or.inl ⟨by rfl, ?_⟩) (by assumption) ?_
        rotate_left
        · (intro w' hSw; (try dsimp only at hSw); go_simp; with_reducible rfl)
        try simp only [Act.put, List.setIfInBounds_toArray, List.set_cons_zero, List.set_cons_succ]
        refine oneL (i := 9) (by kernel_rfl) rfl (fun K hK => ?_)
        go_simp
        refine (XE.out _ P11.out).mono ?_
        rintro e w12 ⟨rfl, hb, _⟩
        have P12 := Lib.hid hb
        clear hb P11 z0 z1 z2 hS
        obtain ⟨z0, z1, z2⟩ := HC.out w12 P12.out.bel
        refine hK.out _ _ (fun _ => ⟨z0, z1, z2⟩) ?_
        clear hK K
        try simp only [Act.put, List.setIfInBounds_toArray, List.set_cons_zero, List.set_cons_succ]
        have hS := And.intro z0 (And.intro z1 z2)
        refine oneL (i := 17) (by kernel_rfl) rfl (fun K hK => ?_)
        go_simp
        refine (YE.out _ P12.out).mono ?_
        rintro e w13 ⟨rfl, hb⟩
        have P13 := Lib.hid (both_below I.turns rg_turns P12.out hb)
        clear hb P12 z0 z1 z2 hS
        obtain ⟨z0, z1, z2⟩ := HC.out w13 P13.out.bel
        refine hK.out _ _ (fun _ => ⟨z0, z1, z2⟩) ?_
        clear hK K
        try simp only [Act.put, List.setIfInBounds_toArray, List.set_cons_zero, List.set_cons_succ]
        have hS := And.intro z0 (And.intro z1 z2)
        have tex : (ex == ex) = true := by simp
        have tav : (av == av) = true := by simp
        have tac : (((ac : Nat) : Int) == ((ac : Nat) : Int)) = true := by simp
        refine takeL (i := 18) (v := ?_) rfl (by kernel_rfl) (by kernel_rfl) (by kernel_rfl) (by kernel_rfl) (by kernel_rfl) (fun _ _ _ h => h) (Or.inl ⟨by rfl, ?_⟩) (by assumption) ?_
        rotate_left
        · (intro w' hSw; (try dsimp only at hSw); go_simp; with_reducible rfl)
        try simp only [Act.put, List.setIfInBounds_toArray, List.set_cons_zero, List.set_cons_succ]
        refine takeL (i := 19) (v := ?_) rfl (by kernel_rfl) (by kernel_rfl) (by kernel_rfl) (by kernel_rfl) (by kernel_rfl) (fun _ _ _ h => h) (Or.inl ⟨by rfl, ?_⟩) (by assumption) ?_
        rotate_left
        · (intro w' hSw; (try dsimp only at hSw); go_simp; with_reducible rfl)
        try simp only [Act.put, List.setIfInBounds_toArray, List.set_cons_zero, List.set_cons_succ]
        refine takeL (i := 20) (v := ?_) rfl (by kernel_rfl) (by kernel_rfl) (by kernel_rfl) (by kernel_rfl) (by kernel_rfl) (fun _ _ _ h => h) (Or.inl ⟨by rfl, ?_⟩) (by assumption) ?_
        rotate_left
        · (intro w' hSw; (try dsimp only at hSw); go_simp; with_reducible rfl)
        try simp only [Act.put, List.setIfInBounds_toArray, List.set_cons_zero, List.set_cons_succ]
        refine takeL (i := 21) (v := ?_) rfl (by kernel_rfl) (by kernel_rfl) (by kernel_rfl) (by kernel_rfl) (by kernel_rfl) (fun _ _ _ h => h) (Or.inl ⟨by rfl, ?_⟩) (by assumption) ?_
        rotate_left
        · (intro w' hSw; (try dsimp only at hSw); go_simp; with_reducible rfl)
        try simp only [Act.put, List.setIfInBounds_toArray, List.set_cons_zero, List.set_cons_succ]
        refine takeL (i := 22) (v := ?_) rfl (by kernel_rfl) (by kernel_rfl) (by kernel_rfl) (by kernel_rfl) (by kernel_rfl) (fun _ _ _ h => h) (Or.inl ⟨by rfl, ?_⟩) (by assumption) ?_
        rotate_left
        · (intro w' hSw; (try dsimp only at hSw); go_simp; with_reducible rfl)
        try simp only [Act.put, List.setIfInBounds_toArray, List.set_cons_zero, List.set_cons_succ]
        refine takeL (i := 23) (v := ?_) rfl (by kernel_rfl) (by kernel_rfl) (by kernel_rfl) (by kernel_rfl) (by kernel_rfl) (fun _ _ _ h => h) (Or.inl ⟨by rfl, ?_⟩) (by assumption) ?_
        rotate_left
        · (intro w' hSw; (try dsimp only at hSw); go_simp; with_reducible rfl)
        try simp only [Act.put, List.setIfInBounds_toArray, List.set_cons_zero, List.set_cons_succ]
        refine takeL (i := 24) (v := ?_) rfl (by kernel_rfl) (by kernel_rfl) (by kernel_rfl) (by kernel_rfl) (by kernel_rfl) (fun _ _ _ h => h) (Or.inl ⟨by rfl, ?_⟩) (by assumption) ?_
        rotate_left
        · (intro w' hSw; (try dsimp only at hSw); go_simp; with_reducible rfl)
        try simp only [Act.put, List.setIfInBounds_toArray, List.set_cons_zero, List.set_cons_succ]
        refine takeL (i := 25) (v := ?_) rfl (by kernel_rfl) (by kernel_rfl) (by kernel_rfl) (by kernel_rfl) (by kernel_rfl) (fun _ _ _ h => h) (Or.inl ⟨by rfl, ?_⟩) (by assumption) ?_
        rotate_left
        · (intro w' hSw; (try dsimp only at hSw); go_simp; with_reducible rfl)
        try simp only [Act.put, List.setIfInBounds_toArray, List.set_cons_zero, List.set_cons_succ]
        refine takeL (i := 26) (v := ?_) rfl (by kernel_rfl) (by kernel_rfl) (by kernel_rfl) (by kernel_rfl) (by kernel_rfl) (fun _ _ _ h => h) (Or.inl ⟨by rfl, ?_⟩) (by assumption) ?_
        rotate_left
        · (intro w' hSw; (try dsimp only at hSw); go_simp; with_reducible rfl)
        try simp only [Act.put, List.setIfInBounds_toArray, List.set_cons_zero, List.set_cons_succ]
        refine takeL (i := 27) (v := ?_) rfl (by kernel_rfl) (by kernel_rfl) (by kernel_rfl) (by kernel_rfl) (by kernel_rfl) (fun _ _ _ h => h) (Or.inl ⟨by rfl, ?_⟩) (by assumption) ?_
        rotate_left
        · (intro w' hSw; (try dsimp only at hSw); go_simp; with_reducible rfl)
        try simp only [Act.put, List.setIfInBounds_toArray, List.set_cons_zero, List.set_cons_succ]
        refine takeL (i := 28) (v := ?_) rfl (by kernel_rfl) (by kernel_rfl) (by kernel_rfl) (by kernel_rfl) (by kernel_rfl) (fun _ _ _ h => h) (Or.inl ⟨by rfl, ?_⟩) (by assumption) ?_
        rotate_left
        · (intro w' hSw; (try dsimp only at hSw); go_simp; with_reducible rfl)
        try simp only [Act.put, List.setIfInBounds_toArray, List.set_cons_zero, List.set_cons_succ]
        refine takeL (i := 29) (v := ?_) rfl (by kernel_rfl) (by kernel_rfl) (by kernel_rfl) (by kernel_rfl) (by kernel_rfl) (fun _ _ _ h => h) (Or.inl ⟨by rfl, ?_⟩) (by assumption) ?_
        rotate_left
        · (intro w' hSw; (try dsimp only at hSw); go_simp; with_reducible rfl)
        try simp only [Act.put, List.setIfInBounds_toArray, List.set_cons_zero, List.set_cons_succ]
        refine takeL (i := 30) (v := ?_) rfl (by kernel_rfl) (by kernel_rfl) (by kernel_rfl) (by kernel_rfl) (by kernel_rfl) (fun _ _ _ h => h) (Or.inl ⟨by rfl, ?_⟩) (by assumption) ?_
        rotate_left
        · (intro w' hSw; (try dsimp only at hSw); go_simp; with_reducible rfl)
        try simp only [Act.put, List.setIfInBounds_toArray, List.set_cons_zero, List.set_cons_succ]
        refine takeL (i := 31) (v := ?_) rfl (by kernel_rfl) (by kernel_rfl) (by kernel_rfl) (by kernel_rfl) (by kernel_rfl) (fun _ _ _ h => h) (Or.inl ⟨by rfl, ?_⟩) (by assumption) ?_
        rotate_left
        · (intro w' hSw; (try dsimp only at hSw); go_simp; with_reducible rfl)
        try simp only [Act.put, List.setIfInBounds_toArray, List.set_cons_zero, List.set_cons_succ]
        refine takeL (i := 32) (v := ?_) rfl (by kernel_rfl) (by kernel_rfl) (by kernel_rfl) (by kernel_rfl) (by kernel_rfl) (fun _ _ _ h => h) (Or.inl ⟨by rfl, ?_⟩) (by assumption) ?_
        rotate_left
        · (intro w' hSw; (try dsimp only at hSw); go_simp; with_reducible rfl)
        try simp only [Act.put, List.setIfInBounds_toArray, List.set_cons_zero, List.set_cons_succ]
        refine takeL (i := 33) (v := ?_) rfl (by kernel_rfl) (by kernel_rfl) (by kernel_rfl) (by kernel_rfl) (by kernel_rfl) (fun _ _ _ h => h) (Or.inl ⟨by rfl, ?_⟩) (by assumption) ?_
        rotate_left
        · (intro w' hSw; (try dsimp only at hSw); go_simp; with_reducible rfl)
        try simp only [Act.put, List.setIfInBounds_toArray, List.set_cons_zero, List.set_cons_succ]
        refine takeL (i := 34) (v := ?_) rfl (by kernel_rfl) (by kernel_rfl) (by kernel_rfl) (by kernel_rfl) (by kernel_rfl) (fun _ _ _ h => h) (Or.inl ⟨by rfl, ?_⟩) (by assumption) ?_
        rotate_left
        · (intro w' hSw; (try dsimp only at hSw); go_simp; with_reducible rfl)
        try simp only [Act.put, List.setIfInBounds_toArray, List.set_cons_zero, List.set_cons_succ]
        refine takeL (i := 35) (v := ?_) rfl (by kernel_rfl) (by kernel_rfl) (by kernel_rfl) (by kernel_rfl) (by kernel_rfl) (fun _ _ _ h => h) (Or.inl ⟨by rfl, ?_⟩) (by assumption) ?_
        rotate_left
        · (intro w' hSw; (try dsimp only at hSw); go_simp; with_reducible rfl)
        try simp only [Act.put, List.setIfInBounds_toArray, List.set_cons_zero, List.set_cons_succ]
        refine takeL (i := 36) (v := ?_) rfl (by kernel_rfl) (by kernel_rfl) (by kernel_rfl) (by kernel_rfl) (by kernel_rfl) (fun _ _ _ h => h) (Or.inl ⟨by rfl, ?_⟩) (by assumption) ?_
        rotate_left
        · (intro w' hSw; (try dsimp only at hSw); go_simp; with_reducible rfl)
        try simp only [Act.put, List.setIfInBounds_toArray, List.set_cons_zero, List.set_cons_succ]
        refine takeL (i := 37) (v := ?_) rfl (by kernel_rfl) (by kernel_rfl) (by kernel_rfl) (by kernel_rfl) (by kernel_rfl) (fun _ _ _ h => h) (Or.inl ⟨by rfl, ?_⟩) (by assumption) ?_
        rotate_left
        · (intro w' hSw; (try dsimp only at hSw); go_simp; with_reducible rfl)
        try simp only [Act.put, List.setIfInBounds_toArray, List.set_cons_zero, List.set_cons_succ]
        refine takeL (i := 38) (v := ?_) rfl (by kernel_rfl) (by kernel_rfl) (by kernel_rfl) (by kernel_rfl) (by kernel_rfl) (fun _ _ _ h => h) (Or.inl ⟨by rfl, ?_⟩) (by assumption) ?_
        rotate_left
        · (intro w' hSw; (try dsimp only at hSw); go_simp; with_reducible rfl)
        try simp only [Act.put, List.setIfInBounds_toArray, List.set_cons_zero, List.set_cons_succ]
        refine takeL (i := 39) (v := ?_) rfl (by kernel_rfl) (by kernel_rfl) (by kernel_rfl) (by kernel_rfl) (by kernel_rfl) (fun _ _ _ h => h) (Or.inl ⟨by rfl, ?_⟩) (by assumption) ?_
        rotate_left
        · (intro w' hSw; (try dsimp only at hSw); go_simp; with_reducible rfl)
        try simp only [Act.put, List.setIfInBounds_toArray, List.set_cons_zero, List.set_cons_succ]
        refine takeL (i := 40) (v := ?_) rfl (by kernel_rfl) (by kernel_rfl) (by kernel_rfl) (by kernel_rfl) (by kernel_rfl) (fun _ _ _ h => h) (Or.inl ⟨by rfl, ?_⟩) (by assumption) ?_
        rotate_left
        · (intro w' hSw; (try dsimp only at hSw); go_simp; with_reducible rfl)
        try simp only [Act.put, List.setIfInBounds_toArray, List.set_cons_zero, List.set_cons_succ]
        refine takeL (i := 41) (v := ?_) rfl (by kernel_rfl) (by kernel_rfl) (by kernel_rfl) (by kernel_rfl) (by kernel_rfl) (fun _ _ _ h => h) (Or.inl ⟨by rfl, ?_⟩) (by assumption) ?_
        rotate_left
        · (intro w' hSw; (try dsimp only at hSw); go_simp; with_reducible rfl)
        try simp only [Act.put, List.setIfInBounds_toArray, List.set_cons_zero, List.set_cons_succ]
        refine takeL (i := 42) (v := ?_) rfl (by kernel_rfl) (by kernel_rfl) (by kernel_rfl) (by kernel_rfl) (by kernel_rfl) (fun _ _ _ h => h) (Or.inl ⟨by rfl, ?_⟩) (by assumption) ?_
        rotate_left
        · (intro w' hSw; (try dsimp only at hSw); go_simp; with_reducible rfl)
        try simp only [Act.put, List.setIfInBounds_toArray, List.set_cons_zero, List.set_cons_succ]
        refine takeL (i := 43) (v := ?_) rfl (by kernel_rfl) (by kernel_rfl) (by kernel_rfl) (by kernel_rfl) (by kernel_rfl) (fun _ _ _ h => h) (Or.inl ⟨by rfl, ?_⟩) (by assumption) ?_
        rotate_left
        · (intro w' hSw; (try dsimp only at hSw); go_simp; with_reducible rfl)
        try simp only [Act.put, List.setIfInBounds_toArray, List.set_cons_zero, List.set_cons_succ]
        refine oneL (i := 44) (by kernel_rfl) rfl (fun K hK => ?_)
        go_simp
        refine (NZ.out _).mono ?_
        rintro e w14 ⟨rfl, hb⟩
        have P14 := Lib.hid (both_below I.turns rg_turns P13.out hb)
        clear hb P13 z0 z1 z2 hS
        obtain ⟨z0, z1, z2⟩ := HC.out w14 P14.out.bel
        refine hK.out _ _ (fun _ => ⟨z0, z1, z2⟩) ?_
        clear hK K
        try simp only [Act.put, List.setIfInBounds_toArray, List.set_cons_zero, List.set_cons_succ]
        have hS := And.intro z0 (And.intro z1 z2)
        refine takeL (i := 45) (v := ?_) rfl (by kernel_rfl) (by kernel_rfl) (by kernel_rfl) (by kernel_rfl) (by kernel_rfl) (fun _ _ _ h => h) (Or.inl ⟨by rfl, ?_⟩) (by assumption) ?_
        rotate_left
        · (intro w' hSw; (try dsimp only at hSw); go_simp; with_reducible rfl)
        try simp only [Act.put, List.setIfInBounds_toArray, List.set_cons_zero, List.set_cons_succ]
        refine takeL (i := 46) (v := ?_) rfl (by kernel_rfl) (by kernel_rfl) (by kernel_rfl) (by kernel_rfl) (by kernel_rfl) (fun _ _ _ h => h) (Or.inl ⟨by rfl, ?_⟩) (by assumption) ?_
        rotate_left
        · (intro w' hSw; (try dsimp only at hSw); go_simp; with_reducible rfl)
        try simp only [Act.put, List.setIfInBounds_toArray, List.set_cons_zero, List.set_cons_succ]
        refine takeL (i := 47) (v := ?_) rfl (by kernel_rfl) (by kernel_rfl) (by kernel_rfl) (by kernel_rfl) (by kernel_rfl) (fun _ _ _ h => h) (Or.inl ⟨by rfl, ?_⟩) (by assumption) ?_
        rotate_left
        · (intro w' hSw; (try dsimp only at hSw); go_simp; with_reducible rfl)
        try simp only [Act.put, List.setIfInBounds_toArray, List.set_cons_zero, List.set_cons_succ]
        refine takeL (i := 48) (v := ?_) rfl (by kernel_rfl) (by kernel_rfl) (by kernel_rfl) (by kernel_rfl) (by kernel_rfl) (fun _ _ _ h => h) (Or.inl ⟨by rfl, ?_⟩) (by assumption) ?_
        rotate_left
        · (intro w' hSw; (try dsimp only at hSw); go_simp; with_reducible rfl)
        try simp only [Act.put, List.setIfInBounds_toArray, List.set_cons_zero, List.set_cons_succ]
        refine takeL (i := 49) (v := ?_) rfl (by kernel_rfl) (by kernel_rfl) (by kernel_rfl) (by kernel_rfl) (by kernel_rfl) (fun _ _ _ h => h) (Or.inl ⟨by rfl, ?_⟩) (by assumption) ?_
        rotate_left
        · (intro w' hSw; (try dsimp only at hSw); go_simp; with_reducible rfl)
        try simp only [Act.put, List.setIfInBounds_toArray, List.set_cons_zero, List.set_cons_succ]
        refine takeL (i := 50) (v := ?_) rfl (by kernel_rfl) (by kernel_rfl) (by kernel_rfl) (by kernel_rfl) (by kernel_rfl) (fun _ _ _ h => h) (Or.inl ⟨by rfl, ?_⟩) (by assumption) ?_
        rotate_left
        · (intro w' hSw; (try dsimp only at hSw); go_simp; with_reducible rfl)
        try simp only [Act.put, List.setIfInBounds_toArray, List.set_cons_zero, List.set_cons_succ]
        refine oneL (i := 51) (by kernel_rfl) rfl (fun K hK => ?_)
        go_simp
        refine (NE.out _ P14.out).mono ?_
        rintro e w15 ⟨rfl, hb⟩
        have P15 := Lib.hid (both_below I.turns rg_turns P14.out hb)
        clear hb P14 z0 z1 z2 hS
        obtain ⟨z0, z1, z2⟩ := HC.out w15 P15.out.bel
        refine hK.out _ _ (fun _ => ⟨z0, z1, z2⟩) ?_
        clear hK K
        try simp only [Act.put, List.setIfInBounds_toArray, List.set_cons_zero, List.set_cons_succ]
        have hS := And.intro z0 (And.intro z1 z2)
        refine takeL (i := 52) (v := ?_) rfl (by kernel_rfl) (by kernel_rfl) (by kernel_rfl) (by kernel_rfl) (by kernel_rfl) (fun _ _ _ h => h) (Or.inl ⟨by rfl, ?_⟩) (by assumption) ?_
        rotate_left
        · (intro w' hSw; (try dsimp only at hSw); go_simp; with_reducible rfl)
        try simp only [Act.put, List.setIfInBounds_toArray, List.set_cons_zero, List.set_cons_succ]
        refine takeL (i := 53) (v := ?_) rfl (by kernel_rfl) (by kernel_rfl) (by kernel_rfl) (by kernel_rfl) (by kernel_rfl) (fun _ _ _ h => h) (Or.inl ⟨by rfl, ?_⟩) (by assumption) ?_
        rotate_left
        · (intro w' hSw; (try dsimp only at hSw); go_simp; with_reducible rfl)
        try simp only [Act.put, List.setIfInBounds_toArray, List.set_cons_zero, List.set_cons_succ]
        refine takeL (i := 54) (v := ?_) rfl (by kernel_rfl) (by kernel_rfl) (by kernel_rfl) (by kernel_rfl) (by kernel_rfl) (fun _ _ _ h => h) (Or.inl ⟨by rfl, ?_⟩) (by assumption) ?_
        rotate_left
        · (intro w' hSw; (try dsimp only at hSw); go_simp; with_reducible rfl)
        try simp only [Act.put, List.setIfInBounds_toArray, List.set_cons_zero, List.set_cons_succ]
        refine takeL (i := 55) (v := ?_) rfl (by kernel_rfl) (by kernel_rfl) (by kernel_rfl) (by kernel_rfl) (by kernel_rfl) (fun _ _ _ h => h) (Or.inl ⟨by rfl, ?_⟩) (by assumption) ?_
        rotate_left
        · (intro w' hSw; (try dsimp only at hSw); go_simp; with_reducible rfl)
        try simp only [Act.put, List.setIfInBounds_toArray, List.set_cons_zero, List.set_cons_succ]
        refine oneL (i := 56) (by kernel_rfl) rfl (fun K hK => ?_)
        go_simp
        refine (ND.out _).mono ?_
        rintro e w16 ⟨⟨px, cx, rfl⟩, hb⟩
        have P16 := Lib.hid (both_below I.turns rg_turns P15.out hb)
        clear hb P15 z0 z1 z2 hS
        obtain ⟨z0, z1, z2⟩ := HC.out w16 P16.out.bel
        refine hK.out _ _ (fun _ => ⟨z0, z1, z2⟩) ?_
        clear hK K
        try simp only [Act.put, List.setIfInBounds_toArray, List.set_cons_zero, List.set_cons_succ]
        have hS := And.intro z0 (And.intro z1 z2)
        refine takeL (i := 57) (v := ?_) rfl (by kernel_rfl) (by kernel_rfl) (by kernel_rfl) (by kernel_rfl) (by kernel_rfl) (fun _ _ _ h => h) (Or.inl ⟨by rfl, ?_⟩) (by assumption) ?_
        rotate_left
        · (intro w' hSw; (try dsimp only at hSw); go_simp; with_reducible rfl)
        try simp only [Act.put, List.setIfInBounds_toArray, List.set_cons_zero, List.set_cons_succ]
        refine takeL (i := 58) (v := ?_) rfl (by kernel_rfl) (by kernel_rfl) (by kernel_rfl) (by kernel_rfl) (by kernel_rfl) (fun _ _ _ h => h) (Or.inl ⟨by rfl, ?_⟩) (by assumption) ?_
        rotate_left
        · (intro w' hSw; (try dsimp only at hSw); go_simp; with_reducible rfl)
        try simp only [Act.put, List.setIfInBounds_toArray, List.set_cons_zero, List.set_cons_succ]
        refine takeL (i := 59) (v := ?_) rfl (by kernel_rfl) (by kernel_rfl) (by kernel_rfl) (by kernel_rfl) (by kernel_rfl) (fun _ _ _ h => h) (Or.inl ⟨by rfl, ?_⟩) (by assumption) ?_
        rotate_left
        · (intro w' hSw; (try dsimp only at hSw); go_simp; with_reducible rfl)
        try simp only [Act.put, List.setIfInBounds_toArray, List.set_cons_zero, List.set_cons_succ]
        refine takeL (i := 60) (v := ?_) rfl (by kernel_rfl) (by kernel_rfl) (by kernel_rfl) (by kernel_rfl) (by kernel_rfl) (fun _ _ _ h => h) (Or.inl ⟨by rfl, ?_⟩) (by assumption) ?_
        rotate_left
        · (intro w' hSw; (try dsimp only at hSw); go_simp; with_reducible rfl)
        try simp only [Act.put, List.setIfInBounds_toArray, List.set_cons_zero, List.set_cons_succ]
        refine doneO (by kernel_rfl) ?_ _
        clear hS z0 z1 z2
        go_wp2
        go_ret
        exact ⟨rfl, HB.out _ P16.out.bel⟩
end Lg
end Go.Proofs.Ytehiclmkdpcplaa
