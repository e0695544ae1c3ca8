/- Walks over the document's answer of layer 6: the reading that counts, the air. No condition but those written. Walks over the document's answer of layer 6: the air of a minute, the next one. No condition but those written. Walks over the document's answer of layer 6: all readings, in order. No condition but those written. Walks over package sat and the document's answer for it: each call gives what the plain definitions say; no condition but those written. Walks over the document's answer of layer 7. Conditions: readings, a worst, a gap that may be. The document's ledger in memory: IDs, and series that lie each elsewhere. No condition but those written. -/
import Derived.Test.YtehiclmkdpcplaaQ03
import Derived.Test.YtehiclmkdpcplaaChecked
import Derived.Test.YtehiclmkdpcplaaQ02
import Derived.WalkKit
import Derived.WalkLawsBesides
import Derived.LoopTactic
import Derived.KernelRfl
import Derived.Lib.Hide
namespace Go.Proofs.Ytehiclmkdpcplaa
open Go.RowKit

namespace Se
def zcells : Array Value := #[.int .i64 0, .int .i64 0, .int .i64 0]
/-- What is known of a series' readings at any later world: its slice, an element's cells. -/
theorem rser_at {w : World} {B g : Nat} {q : Option Addr} {n d : Nat} {wo ga : Int} {L : List Rd} (h : RSer w B g (.slice q n d) wo ga L) {k : Nat} {x : Rd} (hx : L[k]? = some x) :
    ∃ b, q = some ⟨b, 0, none⟩ ∧ n = L.length ∧ n ≤ d ∧ w.cell? ⟨b, k * 3, none⟩ = some (.int .i64 x.min) ∧ w.cell? ⟨b, k * 3 + 1, none⟩ = some (.int .i64 x.seq) ∧ w.cell? ⟨b, k * 3 + 2, none⟩ = some (.int .i64 x.ten) := by
  have hk : k < L.length := (List.getElem?_eq_some_iff.1 hx).1
  obtain ⟨b, c, e, _, _, hnc⟩ := own_some h.2.2 (by omega)
  cases e
  exact ⟨b, rfl, rfl, hnc, row_cell rcells_len h.2.2 rfl hx (i := 0) (by decide), row_cell rcells_len h.2.2 rfl hx (i := 1) (by decide), row_cell rcells_len h.2.2 rfl hx (i := 2) (by decide)⟩
/-- What the walk keeps of the reading that counts, so far. -/
def outOf (o : Option Rd) : Rd := o.getD zero
def ocells (o : Option Rd) : Array Value := #[.int .i64 (outOf o).min, .int .i64 (outOf o).seq, .int .i64 (outOf o).ten]
theorem last_next {L : List Rd} {k : Nat} {x : Rd} {m : Int} (hx : L[k]? = some x) : lastL (L.take (k + 1)) m = lastStep m (lastL (L.take k) m) x := by
  rw [List.take_add_one, hx, Option.toList_some, lastL_snoc]
theorem z3facts {w : World} {b : Nat} (h : Lies w b 37 zcells) :
    (w.cell? ⟨b, 0, none⟩ = some (.int .i64 0) ∧ w.cell? ⟨b, 1, none⟩ = some (.int .i64 0) ∧ w.cell? ⟨b, 2, none⟩ = some (.int .i64 0)) ∧
    (w.frozen? ⟨b, 0, none⟩ = false ∧ w.frozen? ⟨b, 1, none⟩ = false ∧ w.frozen? ⟨b, 2, none⟩ = false) :=
  ⟨⟨h.cell 0, h.cell 1, h.cell 2⟩, ⟨h.frozen 0, h.frozen 1, h.frozen 2⟩⟩
/-- A reading is kept. -/
theorem sput {w w2 : World} {a0 a1 a2 : Value} (hb : Below w.heap.size w w2) (ho : Lies w2 (w.heap.size + 1) 37 #[a0, a1, a2]) (hz : Lies w2 w.heap.size 37 zcells) (x : Rd) :
    Below w.heap.size w (((w2.setCell ⟨w.heap.size + 1, 0, none⟩ (.int .i64 x.min)).setCell ⟨w.heap.size + 1, 1, none⟩ (.int .i64 x.seq)).setCell ⟨w.heap.size + 1, 2, none⟩ (.int .i64 x.ten)) ∧
    Lies (((w2.setCell ⟨w.heap.size + 1, 0, none⟩ (.int .i64 x.min)).setCell ⟨w.heap.size + 1, 1, none⟩ (.int .i64 x.seq)).setCell ⟨w.heap.size + 1, 2, none⟩ (.int .i64 x.ten)) (w.heap.size + 1) 37 (ocells (some x)) ∧
    Lies (((w2.setCell ⟨w.heap.size + 1, 0, none⟩ (.int .i64 x.min)).setCell ⟨w.heap.size + 1, 1, none⟩ (.int .i64 x.seq)).setCell ⟨w.heap.size + 1, 2, none⟩ (.int .i64 x.ten)) w.heap.size 37 zcells := by
  have t : Turn (fun k => k = w.heap.size + 1) w2 (((w2.setCell ⟨w.heap.size + 1, 0, none⟩ (.int .i64 x.min)).setCell ⟨w.heap.size + 1, 1, none⟩ (.int .i64 x.seq)).setCell ⟨w.heap.size + 1, 2, none⟩ (.int .i64 x.ten)) :=
    (((Turn.refl (fun k => k = w.heap.size + 1) w2).setCell (p := ⟨w.heap.size + 1, 0, none⟩) (.inl rfl) _).setCell (p := ⟨w.heap.size + 1, 1, none⟩) (.inl rfl) _).setCell (p := ⟨w.heap.size + 1, 2, none⟩) (.inl rfl) _
  refine ⟨t.below hb hb.size (fun i hi => by omega), ?_, hz.turn t (by omega)⟩
  have := ((ho.set_ 0 (.int .i64 x.min)).set_ 1 (.int .i64 x.seq)).set_ 2 (.int .i64 x.ten)
  exact this
theorem last_lo {m : Int} {o : Option Rd} {x : Rd} (h : m < x.min) : lastStep m o x = o := by
  unfold lastStep
  rw [if_pos h]
theorem last_none {m : Int} {x : Rd} (h : x.min ≤ m) : lastStep m none x = some x := by
  unfold lastStep
  rw [if_neg (by omega)]
theorem last_some {m : Int} {x y : Rd} (h : x.min ≤ m) : lastStep m (some y) x = if ltB y x then some x else some y := by
  unfold lastStep
  rw [if_neg (by omega)]
  simp only [ltB, decide_eq_true_eq]
set_option maxRecDepth 100000 in
set_option maxHeartbeats 8000000 in
theorem rlast_any (B g : Nat) (v : Value) (wo ga : Int) (L : List Rd) (m : Int) (w : World) (h : RSer w B g v wo ga L) (hR : ∀ x ∈ L, rightB x = true) (hg : 0 ≤ ga ∧ ga ≤ 1048575) (hm : m ≤ 9223372036854775807) (hL : L.length ≤ 1000000) :
    Calls Try.prog 52 #[.pointer (some ⟨g, 0, none⟩), .int .i64 m] w fun e w' =>
      e = .returned (.tuple #[rval (outOf (cnt ga L m)), .bool (cnt ga L m).isSome]) ∧ Below w.heap.size w w' := by
  obtain ⟨q, d, rfl⟩ := own_slice h.2.2
  have H := Lib.hid h
  have HR := Lib.hid hR
  have hL' : (L.length : Int) ≤ 1000000 := by omega
  obtain ⟨g0, g1⟩ := hg
  have B0 := Lib.hid ((alloc_below w (.cells zcells 37)).alloc (size_alloc _ _) (.cells zcells 37))
  have O0 := Lib.hid (show Lies ((w.alloc (.cells zcells 37)).alloc (.cells zcells 37)) (w.heap.size + 1) 37 (ocells none) by
    have := Lies.new (w.alloc (.cells zcells 37)) 37 zcells
    rwa [show (w.alloc (.cells zcells 37)).heap.size = w.heap.size + 1 by simp] at this)
  have Z0 := Lib.hid ((Lies.new w 37 zcells).alloc (.cells zcells 37))
  clear h hR
  go_enter Try.func52, Try.ntmps52
  go_wp2_with fail
  go_loopw [7, 8] (fun sm i wr => ∃ (k : Nat) (o : Option Rd), k ≤ L.length ∧ i = .int .i64 k ∧ sm = .bool o.isSome ∧ Hid (o = lastL (L.take k) m) ∧ Hid (Below w.heap.size w wr) ∧ Hid (Lies wr (w.heap.size + 1) 37 (ocells o)) ∧ Hid (Lies wr w.heap.size 37 zcells)) (fun _ i _ => L.length - (RowKit.intOf i).toNat)
  case atStart => exact ⟨0, none, Nat.zero_le _, rfl, rfl, Lib.hid rfl, B0, O0, Z0⟩
  case round =>
    clear B0 O0 Z0
    obtain ⟨k, o, hk, rfl, rfl, HO, HB, OC, ZC⟩ := hrel
    have c2 : wr.cell? ⟨g, 2, none⟩ = some (.slice q L.length d) := (H.out.below HB.out).2.1.cell 2
    have lg : g < wr.heap.size := (H.out.below HB.out).2.1.lt
    by_cases hlt : k < L.length
    · obtain ⟨x, hx⟩ : ∃ x, L[k]? = some x := ⟨_, List.getElem?_eq_getElem hlt⟩
      obtain ⟨b, rfl, _, hnc, e0, e1, e2⟩ := rser_at (H.out.below HB.out) hx
      have hk3 : (k : Int) < (L.length : Int) := by omega
      have HX := Lib.hid hx
      have lb := World.block_lt_of_cell? wr _ e0
      clear hx
      by_cases hmx : m < x.min
      · have HS := Lib.hid (show o = lastL (L.take (k + 1)) m by rw [last_next HX.out, ← HO.out, last_lo hmx])
        clear lb lg
        go_wp2
        go_roundw
        case rel => exact ⟨k + 1, o, by omega, by go_num, rfl, HS, HB, OC, ZC⟩
        case measure => simp [RowKit.intOf]; omega
      · have hmx' : x.min ≤ m := by omega
        have HS := Lib.hid (show lastL (L.take (k + 1)) m = lastStep m o x by rw [last_next HX.out, ← HO.out])
        have HN := Lib.hid hmx'
        have o0 : wr.cell? ⟨w.heap.size + 1, 0, none⟩ = some (.int .i64 (outOf o).min) := OC.out.cell 0
        have o1 : wr.cell? ⟨w.heap.size + 1, 1, none⟩ = some (.int .i64 (outOf o).seq) := OC.out.cell 1
        have o2 : wr.cell? ⟨w.heap.size + 1, 2, none⟩ = some (.int .i64 (outOf o).ten) := OC.out.cell 2
        have lo := OC.out.lt
        have C := Lib.hid (fun W => rahead_any (outOf o) x W)
        unfold rval at C
        clear hmx
        obtain ⟨xm, xs, xt⟩ := x
        generalize hy : outOf o = y at *
        obtain ⟨ym, ys, yt⟩ := y
        have HY := Lib.hid hy
        simp only at *
        clear hy
        go_wp2_with fail
        go_region_held3 (fun w' => w'.cell? ⟨w.heap.size + 1, 0, none⟩ = some (.int .i64 ym) ∧ w'.cell? ⟨w.heap.size + 1, 1, none⟩ = some (.int .i64 ys) ∧ w'.cell? ⟨w.heap.size + 1, 2, none⟩ = some (.int .i64 yt) ∧ w'.cell? ⟨g, 2, none⟩ = some (.slice (some ⟨b, 0, none⟩) L.length d) ∧ w'.cell? ⟨b, k * 3, none⟩ = some (.int .i64 xm) ∧ w'.cell? ⟨b, k * 3 + 1, none⟩ = some (.int .i64 xs) ∧ w'.cell? ⟨b, k * 3 + 2, none⟩ = some (.int .i64 xt))
          (first | go_keep | exact ⟨d0, d1, d2, d3, d4, d5, d6⟩ | exact ⟨o0, o1, o2, c2, e0, e1, e2⟩)
          ((go_at_call 54; ((with_reducible refine (C.out _).mono ?_); rintro E w2 ⟨rfl, hb⟩; have d0 := (hb.cell (p := ⟨w.heap.size + 1, 0, none⟩) lo).trans o0; have d1 := (hb.cell (p := ⟨w.heap.size + 1, 1, none⟩) lo).trans o1; have d2 := (hb.cell (p := ⟨w.heap.size + 1, 2, none⟩) lo).trans o2; have d3 := (hb.cell (p := ⟨g, 2, none⟩) lg).trans c2; have d4 := (hb.cell (p := ⟨b, k * 3, none⟩) lb).trans e0; have d5 := (hb.cell (p := ⟨b, k * 3 + 1, none⟩) lb).trans e1; have d6 := (hb.cell (p := ⟨b, k * 3 + 2, none⟩) lb).trans e2)))
        have HB2 := Lib.hid (HB.out.drew.trans (hb.mono HB.out.size))
        have OC2 := Lib.hid (OC.out.below (show Below wr.heap.size wr w2 from ((Below.refl _ wr).drew).trans hb) lo)
        have ZC2 := Lib.hid (ZC.out.below (show Below wr.heap.size wr w2 from ((Below.refl _ wr).drew).trans hb) ZC.out.lt)
        have g0' := OC2.out.frozen 0
        have g1' := OC2.out.frozen 1
        have g2' := OC2.out.frozen 2
        have NX := Lib.hid (sput HB2.out OC2.out ZC2.out ⟨xm, xs, xt⟩)
        clear hb OC ZC HB lo lg lb o0 o1 o2 c2 e0 e1 e2 C
        rcases o with _ | y
        · have HS2 := Lib.hid (show some ⟨xm, xs, xt⟩ = lastL (L.take (k + 1)) m by rw [HS.out, last_none HN.out])
          go_wp2
          go_roundw
          case rel => exact ⟨k + 1, some ⟨xm, xs, xt⟩, by omega, by go_num, rfl, HS2, Lib.hid NX.out.1, Lib.hid NX.out.2.1, Lib.hid NX.out.2.2⟩
          case measure => simp [RowKit.intOf]; omega
        · have HYY : y = ⟨ym, ys, yt⟩ := HY.out
          by_cases hb2 : ltB ⟨ym, ys, yt⟩ ⟨xm, xs, xt⟩ = true
          · have HS2 := Lib.hid (show some ⟨xm, xs, xt⟩ = lastL (L.take (k + 1)) m by rw [HS.out, last_some HN.out, HYY, if_pos hb2])
            clear HYY
            go_wp2
            go_roundw
            case rel => exact ⟨k + 1, some ⟨xm, xs, xt⟩, by omega, by go_num, rfl, HS2, Lib.hid NX.out.1, Lib.hid NX.out.2.1, Lib.hid NX.out.2.2⟩
            case measure => simp [RowKit.intOf]; omega
          · have hb3 : ltB ⟨ym, ys, yt⟩ ⟨xm, xs, xt⟩ = false := by simpa using hb2
            have HS2 := Lib.hid (show some y = lastL (L.take (k + 1)) m by rw [HS.out, last_some HN.out, HYY, if_neg hb2])
            clear HYY hb2
            go_wp2
            go_roundw
            case rel => exact ⟨k + 1, some y, by omega, by go_num, rfl, HS2, HB2, OC2, ZC2⟩
            case measure => simp [RowKit.intOf]; omega
    · obtain rfl : k = L.length := by omega
      have HO2 := HO.out
      rw [List.take_of_length_le (Nat.le_refl _)] at HO2
      have HS := lastL_spec L m
      rw [← HO2] at HS
      have c1 : wr.cell? ⟨g, 1, none⟩ = some (.int .i64 ga) := (H.out.below HB.out).2.1.cell 1
      obtain ⟨⟨r0, r1, r2⟩, ⟨f0, f1, f2⟩⟩ := z3facts ZC.out
      have o0 : wr.cell? ⟨w.heap.size + 1, 0, none⟩ = some (.int .i64 (outOf o).min) := OC.out.cell 0
      have o1 : wr.cell? ⟨w.heap.size + 1, 1, none⟩ = some (.int .i64 (outOf o).seq) := OC.out.cell 1
      have o2 : wr.cell? ⟨w.heap.size + 1, 2, none⟩ = some (.int .i64 (outOf o).ten) := OC.out.cell 2
      have HC : cnt ga L m = cntOf ga m o := by
        unfold cnt
        rw [← HO2]
      clear HO HO2 OC ZC
      rcases o with _ | y
      · have E := Lib.hid (show cnt ga L m = none from HC)
        clear HC HS
        go_wp2_with fail
        go_quiet (fail)
        go_wp2
        refine bodyPost_ret (v := .tuple #[rval zero, .bool false]) (by simp [results, Try.results52, go_sem, rval, zero, r0, r1, r2]) rfl ⟨by rw [E.out]; rfl, ?_⟩
        iterate 3 refine Below.setCell ?_ (show w.heap.size ≤ _ from Nat.le_refl _) _
        exact below_drewN HB.out _
      · obtain ⟨ym, ys, yt⟩ := y
        have hy : 0 ≤ ym ∧ ym ≤ m := by
          rcases HS with ⟨h, _⟩ | ⟨y, h, h2, h3, _⟩
          · cases h
          · cases h
            have := right_of (HR.out _ h2)
            simp only at this h3
            omega
        obtain ⟨y0, y1⟩ := hy
        have o0' : wr.cell? ⟨w.heap.size + 1, 0, none⟩ = some (.int .i64 ym) := o0
        have o1' : wr.cell? ⟨w.heap.size + 1, 1, none⟩ = some (.int .i64 ys) := o1
        have o2' : wr.cell? ⟨w.heap.size + 1, 2, none⟩ = some (.int .i64 yt) := o2
        clear HS o0 o1 o2
        simp only [cntOf] at HC
        have q1 : IntKind.i64.wrap (m - ym) = m - ym := IntWalk.i64_in _ (by omega)
        by_cases hga : ga < m - ym
        · have E := Lib.hid (show cnt ga L m = none by rw [HC, if_pos hga])
          clear HC
          go_wp2_with fail
          go_quiet (fail)
          go_wp2
          refine bodyPost_ret (v := .tuple #[rval zero, .bool false]) (by simp [results, Try.results52, go_sem, rval, zero, r0, r1, r2]) rfl ⟨by rw [E.out]; rfl, ?_⟩
          iterate 3 refine Below.setCell ?_ (show w.heap.size ≤ _ from Nat.le_refl _) _
          exact below_drewN HB.out _
        · have E := Lib.hid (show cnt ga L m = some ⟨ym, ys, yt⟩ by rw [HC, if_neg hga])
          clear HC
          go_wp2_with fail
          go_quiet (fail)
          go_wp2
          refine bodyPost_ret (v := .tuple #[rval ⟨ym, ys, yt⟩, .bool true]) (by simp [results, Try.results52, go_sem, rval, r0, r1, r2]) rfl ⟨by rw [E.out]; rfl, ?_⟩
          iterate 3 refine Below.setCell ?_ (show w.heap.size ≤ _ from Nat.le_refl _) _
          exact below_drewN HB.out _
end Se
end Go.Proofs.Ytehiclmkdpcplaa

namespace Go.Proofs.Ytehiclmkdpcplaa
open Go.RowKit

namespace Se
theorem cnt_mem {ga m : Int} {L : List Rd} {y : Rd} (h : cnt ga L m = some y) : y ∈ L ∧ y.min ≤ m ∧ m - y.min ≤ ga ∧ ∀ x ∈ L, x.min ≤ m → ¬ lt y x := by
  unfold cnt at h
  rcases lastL_spec L m with ⟨h1, _⟩ | ⟨z, h1, h2, h3, h4⟩
  · rw [h1] at h
    cases h
  · rw [h1] at h
    simp only [cntOf] at h
    split at h
    · cases h
    · cases h
      exact ⟨h2, h3, by omega, h4⟩
theorem air_none {wo ga m : Int} {L : List Rd} (h : cnt ga L m = none) : air wo ga L m = wo := by
  unfold air
  rw [h]
theorem air_some {wo ga m : Int} {L : List Rd} {y : Rd} (h : cnt ga L m = some y) : air wo ga L m = y.ten := by
  unfold air
  rw [h]
set_option maxRecDepth 100000 in
set_option maxHeartbeats 2000000 in
theorem rat_any (B g : Nat) (v : Value) (wo ga : Int) (L : List Rd) (m : Int) (w : World) (h : RSer w B g v wo ga L) (hR : ∀ x ∈ L, rightB x = true) (hg : 0 ≤ ga ∧ ga ≤ 1048575) (hm : m ≤ 9223372036854775807) (hL : L.length ≤ 1000000) :
    Calls Try.prog 31 #[.pointer (some ⟨g, 0, none⟩), .int .i64 m] w fun e w' => e = .returned (.int .i64 (air wo ga L m)) ∧ Below w.heap.size w w' := by
  have C := Lib.hid (rlast_any B g v wo ga L m w h hR hg hm hL)
  have H := Lib.hid h
  clear h hR
  rcases hc : cnt ga L m with _ | y
  · have E := Lib.hid (air_none (wo := wo) hc)
    rw [hc] at C
    unfold outOf rval zero at C
    simp only [Option.getD_none, Option.isSome_none] at C
    clear hc
    go_enter Try.func31, Try.ntmps31
    go_wp2_with fail
    refine C.out.mono ?_
    rintro e w1 ⟨rfl, hb⟩
    have c0 : w1.cell? ⟨g, 0, none⟩ = some (.int .i64 wo) := (H.out.below hb).2.1.cell 0
    have lg := (H.out.below hb).2.1.lt
    have F : ∀ o i, (w1.alloc o).cell? ⟨g, i, none⟩ = w1.cell? ⟨g, i, none⟩ := fun o i => (alloc_below w1 o).cell (p := ⟨g, i, none⟩) lg
    have HB := Lib.hid (hb.alloc hb.size (.cells #[.int .i64 0, .int .i64 0, .int .i64 0] 37))
    clear hb lg
    go_wp2
    go_ret
    exact ⟨by rw [E.out]; rfl, HB.out⟩
  · have E := Lib.hid (air_some (wo := wo) hc)
    rw [hc] at C
    unfold outOf rval at C
    simp only [Option.getD_some, Option.isSome_some] at C
    clear hc
    obtain ⟨ym, ys, yt⟩ := y
    go_enter Try.func31, Try.ntmps31
    go_wp2_with fail
    refine C.out.mono ?_
    rintro e w1 ⟨rfl, hb⟩
    have HB := Lib.hid (hb.alloc hb.size (.cells #[.int .i64 ym, .int .i64 ys, .int .i64 yt] 37))
    clear hb
    go_wp2
    go_ret
    exact ⟨by rw [E.out]; rfl, HB.out⟩
theorem next_next {L : List Rd} {k : Nat} {x : Rd} {m : Int} (hx : L[k]? = some x) : nextL (L.take (k + 1)) m = nextStep m (nextL (L.take k) m) x := by
  rw [List.take_add_one, hx, Option.toList_some, nextL_snoc]
theorem step_yes {m n : Int} {x : Rd} (h : m < x.min) (h2 : n < 0 ∨ x.min < n) : nextStep m n x = x.min := by
  unfold nextStep
  rw [if_pos ⟨h, h2⟩]
theorem step_no {m n : Int} {x : Rd} (h : ¬ (m < x.min ∧ (n < 0 ∨ x.min < n))) : nextStep m n x = n := by
  unfold nextStep
  rw [if_neg h]
theorem next_none {ga m : Int} {L : List Rd} (h : cnt ga L m = none) : next ga L m = nextL L m := by
  unfold next
  rw [h]
theorem next_some {ga m : Int} {L : List Rd} {y : Rd} (h : cnt ga L m = some y) : next ga L m = if nextL L m < 0 ∨ y.min + ga + 1 < nextL L m then y.min + ga + 1 else nextL L m := by
  unfold next
  rw [h]
end Se
end Go.Proofs.Ytehiclmkdpcplaa

namespace Go.Proofs.Ytehiclmkdpcplaa
open Go.RowKit

namespace Se
/-- What is known of the best one so far, behind j of them. -/
def Best (S L : List Rd) (k j : Nat) (b : Int) : Prop :=
  (b = -1 ∧ ∀ i x, i < j → L[i]? = some x → ¬ Cand S k x) ∨ ∃ t y, b = ((t : Nat) : Int) ∧ t < j ∧ L[t]? = some y ∧ Cand S k y ∧ ∀ i x, i < j → L[i]? = some x → Cand S k x → ¬ lt x y
theorem best_start (S L : List Rd) (k : Nat) : Best S L k 0 (-1) := .inl ⟨rfl, fun i x h => by omega⟩
theorem best_skip {S L : List Rd} {k j : Nat} {b : Int} {x : Rd} (h : Best S L k j b) (hx : L[j]? = some x) (hc : ¬ Cand S k x) : Best S L k (j + 1) b := by
  rcases h with ⟨h1, h2⟩ | ⟨t, y, h1, h2, h3, h4, h5⟩
  · refine .inl ⟨h1, fun i z hi hz => ?_⟩
    by_cases hij : i < j
    · exact h2 i z hij hz
    · obtain rfl : i = j := by omega
      rw [hx] at hz
      cases hz
      exact hc
  · refine .inr ⟨t, y, h1, by omega, h3, h4, fun i z hi hz hcz => ?_⟩
    by_cases hij : i < j
    · exact h5 i z hij hz hcz
    · obtain rfl : i = j := by omega
      rw [hx] at hz
      cases hz
      exact absurd hcz hc
theorem best_first {S L : List Rd} {k j : Nat} {b : Int} {x : Rd} (h : Best S L k j b) (hb : b < 0) (hx : L[j]? = some x) (hc : Cand S k x) : Best S L k (j + 1) (j : Int) := by
  rcases h with ⟨_, h2⟩ | ⟨t, y, h1, _⟩
  · refine .inr ⟨j, x, rfl, by omega, hx, hc, fun i z hi hz hcz => ?_⟩
    by_cases hij : i < j
    · exact absurd hcz (h2 i z hij hz)
    · obtain rfl : i = j := by omega
      rw [hx] at hz
      cases hz
      exact lt_irrefl x
  · omega
theorem best_less {S L : List Rd} {k j t : Nat} {x y : Rd} (h : Best S L k j (t : Int)) (hx : L[j]? = some x) (hc : Cand S k x) (hy : L[t]? = some y) (hlt : lt x y) : Best S L k (j + 1) (j : Int) := by
  rcases h with ⟨h1, _⟩ | ⟨t', y', h1, h2, h3, h4, h5⟩
  · omega
  · obtain rfl : t = t' := by omega
    rw [hy] at h3
    cases h3
    refine .inr ⟨j, x, rfl, by omega, hx, hc, fun i z hi hz hcz => ?_⟩
    by_cases hij : i < j
    · exact fun hzx => h5 i z hij hz hcz (lt_trans hzx hlt)
    · obtain rfl : i = j := by omega
      rw [hx] at hz
      cases hz
      exact lt_irrefl x
theorem best_stay {S L : List Rd} {k j t : Nat} {x y : Rd} (h : Best S L k j (t : Int)) (hx : L[j]? = some x) (hy : L[t]? = some y) (hlt : ¬ lt x y) : Best S L k (j + 1) (t : Int) := by
  rcases h with ⟨h1, _⟩ | ⟨t', y', h1, h2, h3, h4, h5⟩
  · omega
  · obtain rfl : t = t' := by omega
    rw [hy] at h3
    cases h3
    refine .inr ⟨t, y, rfl, by omega, hy, h4, fun i z hi hz hcz => ?_⟩
    by_cases hij : i < j
    · exact h5 i z hij hz hcz
    · obtain rfl : i = j := by omega
      rw [hx] at hz
      cases hz
      exact hlt
theorem best_end {S L : List Rd} {k : Nat} {b : Int} (h : Best S L k L.length b) (hs : Sorted S) (hm : ∀ x, x ∈ S ↔ x ∈ L) (hk : k < S.length) : ∃ t y, b = ((t : Nat) : Int) ∧ L[t]? = some y ∧ S[k]? = some y := by
  have hg := List.getElem?_eq_getElem hk
  have hc := (cand_at hs hg (Nat.le_of_lt hk)).2 (Nat.le_refl _)
  obtain ⟨i, hi⟩ := List.mem_iff_getElem?.1 ((hm _).1 (List.getElem_mem hk))
  have hil := (List.getElem?_eq_some_iff.1 hi).1
  rcases h with ⟨_, h2⟩ | ⟨t, y, h1, h2, h3, h4, h5⟩
  · exact absurd hc (h2 i _ hil hi)
  · refine ⟨t, y, h1, h3, cand_first hs hk ((hm y).2 (List.mem_iff_getElem?.2 ⟨t, h3⟩)) h4 fun x hx hcx => ?_⟩
    obtain ⟨i, hi⟩ := List.mem_iff_getElem?.1 ((hm x).1 hx)
    exact h5 i x (List.getElem?_eq_some_iff.1 hi).1 hi hcx
theorem best_at {S L : List Rd} {k j : Nat} {b : Int} (h : Best S L k j b) : b = -1 ∨ ∃ t y, b = ((t : Nat) : Int) ∧ t < j ∧ L[t]? = some y := by
  rcases h with ⟨h1, _⟩ | ⟨t, y, h1, h2, h3, _⟩
  · exact .inl h1
  · exact .inr ⟨t, y, h1, h2, h3⟩
theorem cand_zero (S : List Rd) (x : Rd) : Cand S 0 x := fun z h => absurd h (by decide)
theorem cand_succ {S : List Rd} {k : Nat} {z x : Rd} (hz : S[k]? = some z) : Cand S (k + 1) x ↔ lt z x := by
  constructor
  · exact fun h => h z (by omega) hz
  · intro h u _ hu
    rw [Nat.add_sub_cancel, hz] at hu
    cases hu
    exact h
theorem ltB_iff (a b : Rd) : ltB a b = true ↔ lt a b := by
  unfold ltB
  rw [decide_eq_true_iff]
theorem ltB_no (a b : Rd) : ltB a b = false ↔ ¬ lt a b := by
  unfold ltB
  rw [decide_eq_false_iff_not]
theorem take_next {S : List Rd} {k : Nat} {y : Rd} (h : S[k]? = some y) : (S.take (k + 1)).flatMap rcells = (S.take k).flatMap rcells ++ rcells y := by
  rw [List.take_add_one, h, Option.toList_some, flat_snoc]
theorem own_below2 {w w' : World} {base B : Nat} {e : TypeId} {size n g cap : Nat} {xs : List Value} (h : w.ownsRow base e size (.slice (some ⟨g, 0, none⟩) n cap) n xs) (hb : Below B w w') (hg : g < B) : w'.ownsRow base e size (.slice (some ⟨g, 0, none⟩) n cap) n xs := by
  refine ⟨h.1, ?_⟩
  rcases h.2 with ⟨h0, _⟩ | ⟨g', cap', cur, h0, h1, h2, r⟩
  · cases h0
  · cases h0
    exact .inr ⟨g, cap, cur, rfl, h1, (hb.block g hg).trans h2, r⟩
def lenOf : Value → Nat
  | .slice _ n _ => n
  | _ => 0
set_option maxRecDepth 100000 in
set_option maxHeartbeats 16000000 in
theorem rall_any (B g : Nat) (v : Value) (wo ga : Int) (L : List Rd) (w : World) (h : RSer w B g v wo ga L) (ha : Apart L) (hL : L.length ≤ 1000000) :
    Calls Try.prog 33 #[.pointer (some ⟨g, 0, none⟩)] w fun e w' => ∃ v', e = .returned v' ∧ w'.ownsRow w.heap.size 37 3 v' (sortL L).length ((sortL L).flatMap rcells) ∧ Below w.heap.size w w' := by
  obtain ⟨q, d, rfl⟩ := own_slice h.2.2
  have H := Lib.hid h
  have hL' : (L.length : Int) ≤ 1000000 := by omega
  have HS := Lib.hid (sorted_sort ha)
  have HM := Lib.hid (mem_sort L)
  have hlen := len_sort L
  clear h ha
  generalize sortL L = S at *
  have HLen := Lib.hid hlen
  clear hlen
  obtain ⟨i0, hi, hz0, hz1, hz2⟩ := info_parts infoR
  go_enter Try.func33, Try.ntmps33
  go_wp2_with fail
  go_loopw [3] (fun v wr => ∃ k : Nat, k ≤ L.length ∧ (∃ q' c', v = .slice q' k c') ∧ Hid (wr.ownsRow w.heap.size 37 3 v k ((S.take k).flatMap rcells)) ∧ Hid (Below w.heap.size w wr)) (fun v _ => L.length - lenOf v)
  case atStart => exact ⟨0, Nat.zero_le _, ⟨none, 0, rfl⟩, Lib.hid (World.ownsRow_nil _ _ _ _), Lib.hid (Below.refl _ _)⟩
  case round =>
    obtain ⟨k, hk, ⟨q', c', rfl⟩, HO, HB⟩ := hrel
    have c2 : wr.cell? ⟨g, 2, none⟩ = some (.slice q L.length d) := (H.out.below HB.out).2.1.cell 2
    by_cases hkl : k < L.length
    · have hk3 : (k : Int) < (L.length : Int) := by omega
      have HK := Lib.hid hkl
      obtain ⟨x9, hx9⟩ : ∃ x, L[k]? = some x := ⟨_, List.getElem?_eq_getElem hkl⟩
      obtain ⟨b, rfl, _, hnc, _, _, _⟩ := rser_at (H.out.below HB.out) hx9
      clear hx9
      obtain ⟨wo, rfl⟩ : ∃ wo : World, wo = wr := ⟨_, rfl⟩
      go_wp2_with fail
      go_loopw [4, 5] (fun b i wi => ∃ (j : Nat) (bb : Int), j ≤ L.length ∧ b = .int .i64 bb ∧ i = .int .i64 j ∧ Hid (Best S L k j bb) ∧ Hid (Below wo.heap.size wo wi)) (fun _ i _ => L.length - (RowKit.intOf i).toNat)
      case atStart => exact ⟨0, -1, Nat.zero_le _, rfl, rfl, Lib.hid (best_start S L k), Lib.hid (Below.refl _ _)⟩
      case round =>
        clear c2
        obtain ⟨j, bb, hj, rfl, rfl, HBe, B2⟩ := hrel
        have HW := Lib.hid (show Below w.heap.size w wr from HB.out.trans (B2.out.mono HB.out.size))
        have c2 : wr.cell? ⟨g, 2, none⟩ = some (.slice (some ⟨b, 0, none⟩) L.length d) := (H.out.below HW.out).2.1.cell 2
        have lg := (H.out.below HW.out).2.1.lt
        by_cases hjl : j < L.length
        · obtain ⟨x, hx⟩ : ∃ x, L[j]? = some x := ⟨_, List.getElem?_eq_getElem hjl⟩
          obtain ⟨_, e, _, _, e0, e1, e2⟩ := rser_at (H.out.below HW.out) hx
          cases e
          have hj3 : (j : Int) < (L.length : Int) := by omega
          have lb := World.block_lt_of_cell? wr _ e0
          have HX := Lib.hid hx
          clear hx
          obtain ⟨xm, xs, xt⟩ := x
          simp only at e0 e1 e2
          rcases k with _ | k
          · have HC := Lib.hid (cand_zero S ⟨xm, xs, xt⟩)
            rcases best_at HBe.out with rfl | ⟨t, y, rfl, htj, hy⟩
            · have u0 := e0
              have u1 := e1
              have u2 := e2
              have C2 := Lib.hid (fun W => rahead_any ⟨xm, xs, xt⟩ ⟨xm, xs, xt⟩ W)
              rw [show ltB ⟨xm, xs, xt⟩ ⟨xm, xs, xt⟩ = false from (ltB_no _ _).2 (lt_irrefl _)] at C2
              unfold rval at C2
              simp only at C2
              have HN := Lib.hid (best_first HBe.out (by decide) HX.out HC.out)
              go_wp2_with fail
              go_region_held3 (fun w' => w'.cell? ⟨g, 2, none⟩ = some (.slice (some ⟨b, 0, none⟩) L.length d) ∧ w'.cell? ⟨b, j * 3, none⟩ = some (.int .i64 xm) ∧ w'.cell? ⟨b, j * 3 + 1, none⟩ = some (.int .i64 xs) ∧ w'.cell? ⟨b, j * 3 + 2, none⟩ = some (.int .i64 xt) ∧ w'.cell? ⟨b, j * 3, none⟩ = some (.int .i64 xm) ∧ w'.cell? ⟨b, j * 3 + 1, none⟩ = some (.int .i64 xs) ∧ w'.cell? ⟨b, j * 3 + 2, none⟩ = some (.int .i64 xt))
                (first | go_keep | exact ⟨d0, d1, d2, d3, d4, d5, d6⟩ | exact ⟨c2, e0, e1, e2, u0, u1, u2⟩)
                ((go_at_call 54; ((with_reducible refine (C2.out _).mono ?_); rintro E w3 ⟨rfl, hb3⟩; have d0 := (hb3.cell (p := ⟨g, 2, none⟩) lg).trans c2; have d1 := (hb3.cell (p := ⟨b, j * 3, none⟩) lb).trans e0; have d2 := (hb3.cell (p := ⟨b, j * 3 + 1, none⟩) lb).trans e1; have d3 := (hb3.cell (p := ⟨b, j * 3 + 2, none⟩) lb).trans e2; have d4 := (hb3.cell (p := ⟨b, j * 3, none⟩) lb).trans u0; have d5 := (hb3.cell (p := ⟨b, j * 3 + 1, none⟩) lb).trans u1; have d6 := (hb3.cell (p := ⟨b, j * 3 + 2, none⟩) lb).trans u2)))
              have B3 := Lib.hid (B2.out.trans (((Below.refl _ wr).drew.trans hb3).mono B2.out.size))
              clear hb3
              go_wp2
              go_roundw
              case rel => (repeat apply Exists.intro); exact ⟨⟨j + 1, j, by omega, rfl, by go_num, HN, B3⟩, rfl⟩
              case measure => simp [RowKit.intOf]; omega
            · obtain ⟨_, e, _, _, u0, u1, u2⟩ := rser_at (H.out.below (show Below w.heap.size w wr from HB.out.trans (B2.out.mono HB.out.size))) hy
              cases e
              have htl : t < L.length := by omega
              have ht3 : (t : Int) < (L.length : Int) := by omega
              have htn : ¬ ((t : Int) < 0) := by omega
              have HY := Lib.hid hy
              clear hy
              obtain ⟨ym, ys, yt⟩ := y
              simp only at u0 u1 u2
              by_cases hl : ltB ⟨xm, xs, xt⟩ ⟨ym, ys, yt⟩ = true
              · have C2 := Lib.hid (fun W => rahead_any ⟨xm, xs, xt⟩ ⟨ym, ys, yt⟩ W)
                rw [hl] at C2
                unfold rval at C2
                simp only at C2
                have HN := Lib.hid (best_less HBe.out HX.out HC.out HY.out ((ltB_iff _ _).1 hl))
                clear hl
                go_wp2_with fail
                go_region_held3 (fun w' => w'.cell? ⟨g, 2, none⟩ = some (.slice (some ⟨b, 0, none⟩) L.length d) ∧ w'.cell? ⟨b, j * 3, none⟩ = some (.int .i64 xm) ∧ w'.cell? ⟨b, j * 3 + 1, none⟩ = some (.int .i64 xs) ∧ w'.cell? ⟨b, j * 3 + 2, none⟩ = some (.int .i64 xt) ∧ w'.cell? ⟨b, t * 3, none⟩ = some (.int .i64 ym) ∧ w'.cell? ⟨b, t * 3 + 1, none⟩ = some (.int .i64 ys) ∧ w'.cell? ⟨b, t * 3 + 2, none⟩ = some (.int .i64 yt))
                  (first | go_keep | exact ⟨d0, d1, d2, d3, d4, d5, d6⟩ | exact ⟨c2, e0, e1, e2, u0, u1, u2⟩)
                  ((go_at_call 54; ((with_reducible refine (C2.out _).mono ?_); rintro E w3 ⟨rfl, hb3⟩; have d0 := (hb3.cell (p := ⟨g, 2, none⟩) lg).trans c2; have d1 := (hb3.cell (p := ⟨b, j * 3, none⟩) lb).trans e0; have d2 := (hb3.cell (p := ⟨b, j * 3 + 1, none⟩) lb).trans e1; have d3 := (hb3.cell (p := ⟨b, j * 3 + 2, none⟩) lb).trans e2; have d4 := (hb3.cell (p := ⟨b, t * 3, none⟩) lb).trans u0; have d5 := (hb3.cell (p := ⟨b, t * 3 + 1, none⟩) lb).trans u1; have d6 := (hb3.cell (p := ⟨b, t * 3 + 2, none⟩) lb).trans u2)))
                have B3 := Lib.hid (B2.out.trans (((Below.refl _ wr).drew.trans hb3).mono B2.out.size))
                clear hb3
                go_wp2
                go_roundw
                case rel => (repeat apply Exists.intro); exact ⟨⟨j + 1, j, by omega, rfl, by go_num, HN, B3⟩, rfl⟩
                case measure => simp [RowKit.intOf]; omega
              · have hl' : ltB ⟨xm, xs, xt⟩ ⟨ym, ys, yt⟩ = false := by simpa using hl
                have C2 := Lib.hid (fun W => rahead_any ⟨xm, xs, xt⟩ ⟨ym, ys, yt⟩ W)
                rw [hl'] at C2
                unfold rval at C2
                simp only at C2
                have HN := Lib.hid (best_stay HBe.out HX.out HY.out ((ltB_no _ _).1 hl'))
                clear hl hl'
                go_wp2_with fail
                go_region_held3 (fun w' => w'.cell? ⟨g, 2, none⟩ = some (.slice (some ⟨b, 0, none⟩) L.length d) ∧ w'.cell? ⟨b, j * 3, none⟩ = some (.int .i64 xm) ∧ w'.cell? ⟨b, j * 3 + 1, none⟩ = some (.int .i64 xs) ∧ w'.cell? ⟨b, j * 3 + 2, none⟩ = some (.int .i64 xt) ∧ w'.cell? ⟨b, t * 3, none⟩ = some (.int .i64 ym) ∧ w'.cell? ⟨b, t * 3 + 1, none⟩ = some (.int .i64 ys) ∧ w'.cell? ⟨b, t * 3 + 2, none⟩ = some (.int .i64 yt))
                  (first | go_keep | exact ⟨d0, d1, d2, d3, d4, d5, d6⟩ | exact ⟨c2, e0, e1, e2, u0, u1, u2⟩)
                  ((go_at_call 54; ((with_reducible refine (C2.out _).mono ?_); rintro E w3 ⟨rfl, hb3⟩; have d0 := (hb3.cell (p := ⟨g, 2, none⟩) lg).trans c2; have d1 := (hb3.cell (p := ⟨b, j * 3, none⟩) lb).trans e0; have d2 := (hb3.cell (p := ⟨b, j * 3 + 1, none⟩) lb).trans e1; have d3 := (hb3.cell (p := ⟨b, j * 3 + 2, none⟩) lb).trans e2; have d4 := (hb3.cell (p := ⟨b, t * 3, none⟩) lb).trans u0; have d5 := (hb3.cell (p := ⟨b, t * 3 + 1, none⟩) lb).trans u1; have d6 := (hb3.cell (p := ⟨b, t * 3 + 2, none⟩) lb).trans u2)))
                have B3 := Lib.hid (B2.out.trans (((Below.refl _ wr).drew.trans hb3).mono B2.out.size))
                clear hb3
                go_wp2
                go_roundw
                case rel => (repeat apply Exists.intro); exact ⟨⟨j + 1, t, by omega, rfl, by go_num, HN, B3⟩, rfl⟩
                case measure => simp [RowKit.intOf]; omega
          · obtain ⟨z, hz⟩ : ∃ z, S[k]? = some z := ⟨_, List.getElem?_eq_getElem (by rw [HLen.out]; omega)⟩
            obtain ⟨ob, oc, e, hob, hol, hoc⟩ := own_some HO.out (Nat.succ_pos k)
            cases e
            have OW := own_below2 HO.out B2.out hol
            have hzk : (S.take (k + 1))[k]? = some z := by rw [List.getElem?_take, if_pos (by omega)]; exact hz
            have hzl : (S.take (k + 1)).length = k + 1 := by rw [List.length_take, HLen.out]; omega
            have o0 : wr.cell? ⟨ob, k * 3, none⟩ = some (.int .i64 z.min) := row_cell rcells_len OW hzl hzk (i := 0) (by decide)
            have o1 : wr.cell? ⟨ob, k * 3 + 1, none⟩ = some (.int .i64 z.seq) := row_cell rcells_len OW hzl hzk (i := 1) (by decide)
            have o2 : wr.cell? ⟨ob, k * 3 + 2, none⟩ = some (.int .i64 z.ten) := row_cell rcells_len OW hzl hzk (i := 2) (by decide)
            have lo := World.block_lt_of_cell? wr _ o0
            have HZ := Lib.hid (cand_succ (x := ⟨xm, xs, xt⟩) hz)
            have C1 := Lib.hid (fun W => rahead_any z ⟨xm, xs, xt⟩ W)
            clear hz hzk hzl OW
            obtain ⟨zm, zs, zt⟩ := z
            unfold rval at C1
            simp only at C1 o0 o1 o2
            have q1 : IntKind.i64.wrap ((k : Int) + 1 - 1) = (k : Int) := by rw [show (k : Int) + 1 - 1 = (k : Int) by omega]; exact IntWalk.i64_in _ (by omega)
            have q2 : IntKind.i64.wrap (((k + 1 : Nat) : Int) - 1) = (k : Int) := by rw [show ((k + 1 : Nat) : Int) - 1 = (k : Int) by omega]; exact IntWalk.i64_in _ (by omega)
            have q6 : IntKind.i64.wrap (k : Int) = (k : Int) := IntWalk.i64_in _ (by omega)
            have q3 : (k : Int) < (k : Int) + 1 := by omega
            have q4 : (0 : Int) ≤ (k : Int) := by omega
            have q5 : k < k + 1 := by omega
            by_cases hzx : ltB ⟨zm, zs, zt⟩ ⟨xm, xs, xt⟩ = true
            · have HC := Lib.hid (HZ.out.2 ((ltB_iff _ _).1 hzx))
              rw [hzx] at C1
              clear hzx
              go_wp2_with fail
              go_region_held3 (fun w' => w'.cell? ⟨g, 2, none⟩ = some (.slice (some ⟨b, 0, none⟩) L.length d) ∧ w'.cell? ⟨b, j * 3, none⟩ = some (.int .i64 xm) ∧ w'.cell? ⟨b, j * 3 + 1, none⟩ = some (.int .i64 xs) ∧ w'.cell? ⟨b, j * 3 + 2, none⟩ = some (.int .i64 xt) ∧ w'.cell? ⟨ob, k * 3, none⟩ = some (.int .i64 zm) ∧ w'.cell? ⟨ob, k * 3 + 1, none⟩ = some (.int .i64 zs) ∧ w'.cell? ⟨ob, k * 3 + 2, none⟩ = some (.int .i64 zt))
                (first | go_keep | exact ⟨d0, d1, d2, d3, d4, d5, d6⟩ | exact ⟨c2, e0, e1, e2, o0, o1, o2⟩)
                ((go_at_call 54; ((with_reducible refine (C1.out _).mono ?_); rintro E w2 ⟨rfl, hb2⟩; have d0 := (hb2.cell (p := ⟨g, 2, none⟩) lg).trans c2; have d1 := (hb2.cell (p := ⟨b, j * 3, none⟩) lb).trans e0; have d2 := (hb2.cell (p := ⟨b, j * 3 + 1, none⟩) lb).trans e1; have d3 := (hb2.cell (p := ⟨b, j * 3 + 2, none⟩) lb).trans e2; have d4 := (hb2.cell (p := ⟨ob, k * 3, none⟩) lo).trans o0; have d5 := (hb2.cell (p := ⟨ob, k * 3 + 1, none⟩) lo).trans o1; have d6 := (hb2.cell (p := ⟨ob, k * 3 + 2, none⟩) lo).trans o2)))
              have B4 := Lib.hid (B2.out.trans (((Below.refl _ wr).drew.trans hb2).mono B2.out.size))
              have lg2 := Nat.lt_of_lt_of_le lg hb2.size
              have lb2 := Nat.lt_of_lt_of_le lb hb2.size
              clear hb2 c2 e0 e1 e2 o0 o1 o2 lg lb lo C1 B2 HW d4 d5 d6
              have B2 := B4
              have c2 := d0
              have e0 := d1
              have e1 := d2
              have e2 := d3
              have lg := lg2
              have lb := lb2
              clear d0 d1 d2 d3 B4 lg2 lb2
              rcases best_at HBe.out with rfl | ⟨t, y, rfl, htj, hy⟩
              · have u0 := e0
                have u1 := e1
                have u2 := e2
                have C2 := Lib.hid (fun W => rahead_any ⟨xm, xs, xt⟩ ⟨xm, xs, xt⟩ W)
                rw [show ltB ⟨xm, xs, xt⟩ ⟨xm, xs, xt⟩ = false from (ltB_no _ _).2 (lt_irrefl _)] at C2
                unfold rval at C2
                simp only at C2
                have HN := Lib.hid (best_first HBe.out (by decide) HX.out HC.out)
                go_wp2_with fail
                go_region_held3 (fun w' => w'.cell? ⟨g, 2, none⟩ = some (.slice (some ⟨b, 0, none⟩) L.length d) ∧ w'.cell? ⟨b, j * 3, none⟩ = some (.int .i64 xm) ∧ w'.cell? ⟨b, j * 3 + 1, none⟩ = some (.int .i64 xs) ∧ w'.cell? ⟨b, j * 3 + 2, none⟩ = some (.int .i64 xt) ∧ w'.cell? ⟨b, j * 3, none⟩ = some (.int .i64 xm) ∧ w'.cell? ⟨b, j * 3 + 1, none⟩ = some (.int .i64 xs) ∧ w'.cell? ⟨b, j * 3 + 2, none⟩ = some (.int .i64 xt))
                  (first | go_keep | exact ⟨d0, d1, d2, d3, d4, d5, d6⟩ | exact ⟨c2, e0, e1, e2, u0, u1, u2⟩)
                  ((go_at_call 54; ((with_reducible refine (C2.out _).mono ?_); rintro E w3 ⟨rfl, hb3⟩; have d0 := (hb3.cell (p := ⟨g, 2, none⟩) lg).trans c2; have d1 := (hb3.cell (p := ⟨b, j * 3, none⟩) lb).trans e0; have d2 := (hb3.cell (p := ⟨b, j * 3 + 1, none⟩) lb).trans e1; have d3 := (hb3.cell (p := ⟨b, j * 3 + 2, none⟩) lb).trans e2; have d4 := (hb3.cell (p := ⟨b, j * 3, none⟩) lb).trans u0; have d5 := (hb3.cell (p := ⟨b, j * 3 + 1, none⟩) lb).trans u1; have d6 := (hb3.cell (p := ⟨b, j * 3 + 2, none⟩) lb).trans u2)))
                have B3 := Lib.hid (B2.out.trans (((Below.refl _ w2).drew.trans hb3).mono B2.out.size))
                clear hb3
                go_wp2
                go_roundw
                case rel => (repeat apply Exists.intro); exact ⟨⟨j + 1, j, by omega, rfl, by go_num, HN, B3⟩, rfl⟩
                case measure => simp [RowKit.intOf]; omega
              · obtain ⟨_, e, _, _, u0, u1, u2⟩ := rser_at (H.out.below (show Below w.heap.size w w2 from HB.out.trans (B2.out.mono HB.out.size))) hy
                cases e
                have htl : t < L.length := by omega
                have ht3 : (t : Int) < (L.length : Int) := by omega
                have htn : ¬ ((t : Int) < 0) := by omega
                have HY := Lib.hid hy
                clear hy
                obtain ⟨ym, ys, yt⟩ := y
                simp only at u0 u1 u2
                by_cases hl : ltB ⟨xm, xs, xt⟩ ⟨ym, ys, yt⟩ = true
                · have C2 := Lib.hid (fun W => rahead_any ⟨xm, xs, xt⟩ ⟨ym, ys, yt⟩ W)
                  rw [hl] at C2
                  unfold rval at C2
                  simp only at C2
                  have HN := Lib.hid (best_less HBe.out HX.out HC.out HY.out ((ltB_iff _ _).1 hl))
                  clear hl
                  go_wp2_with fail
                  go_region_held3 (fun w' => w'.cell? ⟨g, 2, none⟩ = some (.slice (some ⟨b, 0, none⟩) L.length d) ∧ w'.cell? ⟨b, j * 3, none⟩ = some (.int .i64 xm) ∧ w'.cell? ⟨b, j * 3 + 1, none⟩ = some (.int .i64 xs) ∧ w'.cell? ⟨b, j * 3 + 2, none⟩ = some (.int .i64 xt) ∧ w'.cell? ⟨b, t * 3, none⟩ = some (.int .i64 ym) ∧ w'.cell? ⟨b, t * 3 + 1, none⟩ = some (.int .i64 ys) ∧ w'.cell? ⟨b, t * 3 + 2, none⟩ = some (.int .i64 yt))
                    (first | go_keep | exact ⟨d0, d1, d2, d3, d4, d5, d6⟩ | exact ⟨c2, e0, e1, e2, u0, u1, u2⟩)
                    ((go_at_call 54; ((with_reducible refine (C2.out _).mono ?_); rintro E w3 ⟨rfl, hb3⟩; have d0 := (hb3.cell (p := ⟨g, 2, none⟩) lg).trans c2; have d1 := (hb3.cell (p := ⟨b, j * 3, none⟩) lb).trans e0; have d2 := (hb3.cell (p := ⟨b, j * 3 + 1, none⟩) lb).trans e1; have d3 := (hb3.cell (p := ⟨b, j * 3 + 2, none⟩) lb).trans e2; have d4 := (hb3.cell (p := ⟨b, t * 3, none⟩) lb).trans u0; have d5 := (hb3.cell (p := ⟨b, t * 3 + 1, none⟩) lb).trans u1; have d6 := (hb3.cell (p := ⟨b, t * 3 + 2, none⟩) lb).trans u2)))
                  have B3 := Lib.hid (B2.out.trans (((Below.refl _ w2).drew.trans hb3).mono B2.out.size))
                  clear hb3
                  go_wp2
                  go_roundw
                  case rel => (repeat apply Exists.intro); exact ⟨⟨j + 1, j, by omega, rfl, by go_num, HN, B3⟩, rfl⟩
                  case measure => simp [RowKit.intOf]; omega
                · have hl' : ltB ⟨xm, xs, xt⟩ ⟨ym, ys, yt⟩ = false := by simpa using hl
                  have C2 := Lib.hid (fun W => rahead_any ⟨xm, xs, xt⟩ ⟨ym, ys, yt⟩ W)
                  rw [hl'] at C2
                  unfold rval at C2
                  simp only at C2
                  have HN := Lib.hid (best_stay HBe.out HX.out HY.out ((ltB_no _ _).1 hl'))
                  clear hl hl'
                  go_wp2_with fail
                  go_region_held3 (fun w' => w'.cell? ⟨g, 2, none⟩ = some (.slice (some ⟨b, 0, none⟩) L.length d) ∧ w'.cell? ⟨b, j * 3, none⟩ = some (.int .i64 xm) ∧ w'.cell? ⟨b, j * 3 + 1, none⟩ = some (.int .i64 xs) ∧ w'.cell? ⟨b, j * 3 + 2, none⟩ = some (.int .i64 xt) ∧ w'.cell? ⟨b, t * 3, none⟩ = some (.int .i64 ym) ∧ w'.cell? ⟨b, t * 3 + 1, none⟩ = some (.int .i64 ys) ∧ w'.cell? ⟨b, t * 3 + 2, none⟩ = some (.int .i64 yt))
                    (first | go_keep | exact ⟨d0, d1, d2, d3, d4, d5, d6⟩ | exact ⟨c2, e0, e1, e2, u0, u1, u2⟩)
                    ((go_at_call 54; ((with_reducible refine (C2.out _).mono ?_); rintro E w3 ⟨rfl, hb3⟩; have d0 := (hb3.cell (p := ⟨g, 2, none⟩) lg).trans c2; have d1 := (hb3.cell (p := ⟨b, j * 3, none⟩) lb).trans e0; have d2 := (hb3.cell (p := ⟨b, j * 3 + 1, none⟩) lb).trans e1; have d3 := (hb3.cell (p := ⟨b, j * 3 + 2, none⟩) lb).trans e2; have d4 := (hb3.cell (p := ⟨b, t * 3, none⟩) lb).trans u0; have d5 := (hb3.cell (p := ⟨b, t * 3 + 1, none⟩) lb).trans u1; have d6 := (hb3.cell (p := ⟨b, t * 3 + 2, none⟩) lb).trans u2)))
                  have B3 := Lib.hid (B2.out.trans (((Below.refl _ w2).drew.trans hb3).mono B2.out.size))
                  clear hb3
                  go_wp2
                  go_roundw
                  case rel => (repeat apply Exists.intro); exact ⟨⟨j + 1, t, by omega, rfl, by go_num, HN, B3⟩, rfl⟩
                  case measure => simp [RowKit.intOf]; omega
            · have hzx' : ltB ⟨zm, zs, zt⟩ ⟨xm, xs, xt⟩ = false := by simpa using hzx
              have HN := Lib.hid (best_skip HBe.out HX.out (fun h => hzx ((ltB_iff _ _).2 (HZ.out.1 h))))
              rw [hzx'] at C1
              clear hzx hzx'
              go_wp2_with fail
              go_region_held3 (fun w' => w'.cell? ⟨g, 2, none⟩ = some (.slice (some ⟨b, 0, none⟩) L.length d) ∧ w'.cell? ⟨b, j * 3, none⟩ = some (.int .i64 xm) ∧ w'.cell? ⟨b, j * 3 + 1, none⟩ = some (.int .i64 xs) ∧ w'.cell? ⟨b, j * 3 + 2, none⟩ = some (.int .i64 xt) ∧ w'.cell? ⟨ob, k * 3, none⟩ = some (.int .i64 zm) ∧ w'.cell? ⟨ob, k * 3 + 1, none⟩ = some (.int .i64 zs) ∧ w'.cell? ⟨ob, k * 3 + 2, none⟩ = some (.int .i64 zt))
                (first | go_keep | exact ⟨d0, d1, d2, d3, d4, d5, d6⟩ | exact ⟨c2, e0, e1, e2, o0, o1, o2⟩)
                ((go_at_call 54; ((with_reducible refine (C1.out _).mono ?_); rintro E w2 ⟨rfl, hb2⟩; have d0 := (hb2.cell (p := ⟨g, 2, none⟩) lg).trans c2; have d1 := (hb2.cell (p := ⟨b, j * 3, none⟩) lb).trans e0; have d2 := (hb2.cell (p := ⟨b, j * 3 + 1, none⟩) lb).trans e1; have d3 := (hb2.cell (p := ⟨b, j * 3 + 2, none⟩) lb).trans e2; have d4 := (hb2.cell (p := ⟨ob, k * 3, none⟩) lo).trans o0; have d5 := (hb2.cell (p := ⟨ob, k * 3 + 1, none⟩) lo).trans o1; have d6 := (hb2.cell (p := ⟨ob, k * 3 + 2, none⟩) lo).trans o2)))
              have B4 := Lib.hid (B2.out.trans (((Below.refl _ wr).drew.trans hb2).mono B2.out.size))
              clear hb2
              go_wp2
              go_roundw
              case rel => (repeat apply Exists.intro); exact ⟨⟨j + 1, bb, by omega, rfl, by go_num, HN, B4⟩, rfl⟩
              case measure => simp [RowKit.intOf]; omega
        · obtain rfl : j = L.length := by omega
          obtain ⟨t, y, e, hy, hSk⟩ := best_end HBe.out HS.out HM.out (by rw [HLen.out]; exact HK.out)
          subst e
          obtain ⟨_, e, _, _, e0, e1, e2⟩ := rser_at (H.out.below HW.out) hy
          cases e
          have htl : t < L.length := (List.getElem?_eq_some_iff.1 hy).1
          have ht3 : (t : Int) < (L.length : Int) := by omega
          have hk2 : k < L.length := HK.out
          have OW := Lib.hid (own_turn HO.out (Turn.of_below (S := fun _ => False) B2.out) (fun _ _ hf => hf))
          have HT := Lib.hid (take_next hSk)
          clear hy hSk
          obtain ⟨ym, ys, yt⟩ := y
          simp only at e0 e1 e2
          have hsz := HW.out.size
          go_wp2_with (at_builtin; refine wpList_append_own _ rfl _ _ 44 rfl w.heap.size 37 i0 _ 3 24 Try.underlying44 hi hz0 hz1 hz2 rfl (by decide) _ _ _ rfl (OW.out.alloc _) ⟨wr.heap.size, 0, none⟩ 1 1 [.int .i64 ym, .int .i64 ys, .int .i64 yt] rfl rfl (World.news_of_block (cs := #[.int .i64 ym, .int .i64 ys, .int .i64 yt]) (t := 37) (fr := (0, 0)) (heap_alloc_new wr _)) (by simp [Value.oneCell']) (by unfold maxLen; omega) (by omega) (by simp; omega) ?_; intro v2 w2 hown2 hg2 _)
          have HB3 := Lib.hid ((HW.out.alloc hsz (.cells #[.int .i64 ym, .int .i64 ys, .int .i64 yt] 37)).grown hg2 (Nat.le_trans hsz (size_alloc _ _)) (fun k hk => (OW.out.lt k hk).1))
          have HO3 := Lib.hid (show w2.ownsRow w.heap.size 37 3 v2 (k + 1) ((S.take (k + 1)).flatMap rcells) by rw [HT.out]; exact hown2)
          obtain ⟨q2, c3, rfl⟩ := own_slice hown2
          clear hown2 hg2
          go_roundw
          case rel => exact ⟨k + 1, by omega, ⟨q2, c3, rfl⟩, HO3, HB3⟩
          case measure => simp [lenOf]; omega
    · obtain rfl : k = L.length := by omega
      have HT := Lib.hid (show S.take L.length = S by rw [List.take_of_length_le (by rw [HLen.out]; exact Nat.le_refl _)])
      go_wp2
      go_ret
      refine ⟨_, rfl, ?_, HB.out⟩
      have := HO.out
      rw [HT.out] at this
      rw [HLen.out]
      exact this
end Se
end Go.Proofs.Ytehiclmkdpcplaa

namespace Go.Proofs.Ytehiclmkdpcplaa
namespace St
open Go.RowKit

theorem ret_int {a b : Int} (h : a = b) : Ending.returned (.int .i64 a) = .returned (.int .i64 b) := by rw [h]

theorem fit_any (n : Int) (w : World) : Calls Try.prog 46 #[.int .i64 n] w fun e w' => e = .returned (.int .i64 (St.fit n)) ∧ w = w' := by
  by_cases h1 : n < 0
  · have E := Lib.hid (St.fit_neg h1)
    go_enter Try.func46, Try.ntmps46
    go_wp2
    go_ret
    exact ⟨ret_int E.out.symm, rfl⟩
  · by_cases h2 : 4611686018427387904 < n
    · have E := Lib.hid (St.fit_big h2)
      go_enter Try.func46, Try.ntmps46
      go_wp2
      go_ret
      exact ⟨ret_int E.out.symm, rfl⟩
    · have E := Lib.hid (St.fit_mid (n := n) (by omega) (by omega))
      go_enter Try.func46, Try.ntmps46
      go_wp2
      go_ret
      exact ⟨ret_int E.out.symm, rfl⟩
theorem rfit_any (n : Int) (w : World) : Calls Try.prog 47 #[.int .i64 n] w fun e w' => e = .returned (.int .i64 (St.fit n)) ∧ w = w' := by
  by_cases h1 : n < 0
  · have E := Lib.hid (St.fit_neg h1)
    go_enter Try.func47, Try.ntmps47
    go_wp2
    go_ret
    exact ⟨ret_int E.out.symm, rfl⟩
  · by_cases h2 : 4611686018427387904 < n
    · have E := Lib.hid (St.fit_big h2)
      go_enter Try.func47, Try.ntmps47
      go_wp2
      go_ret
      exact ⟨ret_int E.out.symm, rfl⟩
    · have E := Lib.hid (St.fit_mid (n := n) (by omega) (by omega))
      go_enter Try.func47, Try.ntmps47
      go_wp2
      go_ret
      exact ⟨ret_int E.out.symm, rfl⟩

theorem plus_any (a b : Int) (ha : 0 ≤ a) (ha' : a ≤ 4611686018427387904) (hb : 0 ≤ b) (hb' : b ≤ 4611686018427387904) (w : World) :
    Calls Try.prog 45 #[.int .i64 a, .int .i64 b] w fun e w' => e = .returned (.int .i64 (St.cap (a + b))) ∧ w = w' := by
  by_cases h1 : 4611686018427387904 - b < a
  · have E := Lib.hid (St.cap_big (n := a + b) (by omega))
    go_enter Try.func45, Try.ntmps45
    go_wp2
    go_ret
    exact ⟨ret_int E.out.symm, rfl⟩
  · have E := Lib.hid (St.cap_mid (n := a + b) (by omega))
    go_enter Try.func45, Try.ntmps45
    go_wp2
    go_ret
    exact ⟨ret_int E.out.symm, rfl⟩
theorem two_any (a b : Int) (w : World) :
    Calls Try.prog 28 #[.int .i64 a, .int .i64 b] w fun e w' => e = .returned (.int .i64 (St.cap (St.fit a + St.fit b))) ∧ w = w' := by
  have HA := rfit_any a
  have HB := rfit_any b
  obtain ⟨a0, a1⟩ := St.fit_bd a
  obtain ⟨b0, b1⟩ := St.fit_bd b
  generalize St.fit a = x at *
  generalize St.fit b = y at *
  have HA' := Lib.hid HA
  have HB' := Lib.hid HB
  clear HA HB
  by_cases h1 : 4611686018427387904 - y < x
  · have E := Lib.hid (St.cap_big (n := x + y) (by omega))
    go_enter Try.func28, Try.ntmps28
    go_wp2_with fail
    refine (HA'.out _).mono ?_
    rintro e w' ⟨rfl, rfl⟩
    go_wp2_with fail
    refine (HB'.out _).mono ?_
    rintro e w' ⟨rfl, rfl⟩
    go_wp2
    go_ret
    exact ⟨ret_int E.out.symm, rfl⟩
  · have E := Lib.hid (St.cap_mid (n := x + y) (by omega))
    go_enter Try.func28, Try.ntmps28
    go_wp2_with fail
    refine (HA'.out _).mono ?_
    rintro e w' ⟨rfl, rfl⟩
    go_wp2_with fail
    refine (HB'.out _).mono ?_
    rintro e w' ⟨rfl, rfl⟩
    go_wp2
    go_ret
    exact ⟨ret_int E.out.symm, rfl⟩

theorem less_any (a b : Int) (w : World) :
    Calls Try.prog 65 #[.int .i64 a, .int .i64 b] w fun e w' => e = .returned (.int .i64 (St.fit (St.fit a - St.fit b))) ∧ w = w' := by
  have HA := fit_any a
  have HB := fit_any b
  obtain ⟨a0, a1⟩ := St.fit_bd a
  obtain ⟨b0, b1⟩ := St.fit_bd b
  generalize St.fit a = x at *
  generalize St.fit b = y at *
  have HA' := Lib.hid HA
  have HB' := Lib.hid HB
  have HC' := Lib.hid (fit_any (x - y))
  clear HA HB
  go_enter Try.func65, Try.ntmps65
  go_wp2_with fail
  refine (HA'.out _).mono ?_
  rintro e w' ⟨rfl, rfl⟩
  go_wp2_with fail
  refine (HB'.out _).mono ?_
  rintro e w' ⟨rfl, rfl⟩
  go_wp2_with fail
  refine (HC'.out _).mono ?_
  rintro e w' ⟨rfl, rfl⟩
  go_wp2
  go_ret
  exact ⟨rfl, rfl⟩
end St
end Go.Proofs.Ytehiclmkdpcplaa

namespace Go.Proofs.Ytehiclmkdpcplaa
open Go.RowKit Se

namespace Ex
set_option maxRecDepth 100000 in
set_option maxHeartbeats 2000000 in
theorem rexc_any (B g : Nat) (v : Value) (wo ga lim : Int) (L : List Rd) (m : Int) (w : World) (h : RSer w B g v wo ga L) (hR : ∀ x ∈ L, rightB x = true) (hm : mayB wo ga = true) (hl : tenB lim = true) (hL : L.length ≤ 1000000) :
    Calls Try.prog 49 #[.pointer (some ⟨g, 0, none⟩), .int .i64 lim, .int .i64 m] w fun e w' => e = .returned (.int .i64 (exc wo ga lim L m)) ∧ Below w.heap.size w w' := by
  have hb := air_bd hm hR m
  have hlb : -1099511627776 ≤ lim ∧ lim ≤ 1099511627776 := by simpa [tenB] using hl
  have hg := may_of hm
  by_cases h0 : m < 0
  · have E := Lib.hid (show exc wo ga lim L m = 0 from if_pos (.inl h0))
    clear h hb hlb
    go_enter Try.func49, Try.ntmps49
    go_wp2
    go_ret
    exact ⟨by rw [E.out]; rfl, Below.refl _ _⟩
  · by_cases h1 : 1048575 < m
    · have E := Lib.hid (show exc wo ga lim L m = 0 from if_pos (.inr h1))
      clear h hb hlb
      go_enter Try.func49, Try.ntmps49
      go_wp2
      go_ret
      exact ⟨by rw [E.out]; rfl, Below.refl _ _⟩
    · have E := Lib.hid (show exc wo ga lim L m = max 0 (air wo ga L m - lim) from if_neg (by omega))
      have A := Lib.hid (rat_any B g v wo ga L m w h hR ⟨hg.2.2.1, hg.2.2.2⟩ (by omega) hL)
      clear h hg
      generalize air wo ga L m = u at *
      have q : IntKind.i64.wrap (u - lim) = u - lim := IntWalk.i64_in _ (by omega)
      obtain ⟨a1, a2⟩ := hb
      obtain ⟨b1, b2⟩ := hlb
      have h0' : 0 ≤ m := by omega
      have h1' : m ≤ 1048575 := by omega
      go_enter Try.func49, Try.ntmps49
      go_wp2_with fail
      refine A.out.mono ?_
      rintro e w1 ⟨rfl, hb⟩
      have B1 := Lib.hid hb
      clear hb A
      by_cases hd : lim < u
      · have hd' : ¬ u ≤ lim := by omega
        have E2 := Lib.hid (E.out.trans (show max 0 (u - lim) = u - lim by omega))
        go_wp2
        go_ret
        exact ⟨by rw [E2.out]; rfl, B1.out⟩
      · have hd' : u ≤ lim := by omega
        have E2 := Lib.hid (E.out.trans (show max 0 (u - lim) = 0 by omega))
        go_wp2
        go_ret
        exact ⟨by rw [E2.out]; rfl, B1.out⟩
set_option maxRecDepth 100000 in
set_option maxHeartbeats 4000000 in
theorem rsum_yes (B g : Nat) (v : Value) (wo ga lim : Int) (L : List Rd) (a b : Int) (w : World) (h : RSer w B g v wo ga L) (hR : ∀ x ∈ L, rightB x = true) (hm : mayB wo ga = true) (hl : tenB lim = true) (hL : L.length ≤ 1000000)
    (a1 : a ≤ 9223372036854775807) (b1 : b ≤ 9223372036854775807) :
    Calls Try.prog 29 #[.pointer (some ⟨g, 0, none⟩), .int .i64 lim, .int .i64 a, .int .i64 b] w fun e w' => e = .returned (.int .i64 (tot wo ga lim L a b)) ∧ Below w.heap.size w w' := by
  have T := Lib.hid (fun W => rten_any lim W)
  rw [hl] at T
  have X := Lib.hid (fun W m (hp : RSer W B g v wo ga L) => rexc_any B g v wo ga lim L m W hp hR hm hl hL)
  have W2 := Lib.hid (fun (k : Nat) m W (hk : k + 1 ≤ 1048576) => show Calls Try.prog 28 #[.int .i64 (run (exc wo ga lim L) m k), .int .i64 (exc wo ga lim L (m + k))] W fun e w' => e = .returned (.int .i64 (run (exc wo ga lim L) m (k + 1))) ∧ W = w' by
    have hb := run_bd hm hR hl m (k + 1) hk
    have hb0 := run_bd hm hR hl m k (by omega)
    have he := exc_nn wo ga lim L (m + k)
    have hr : run (exc wo ga lim L) m (k + 1) = run (exc wo ga lim L) m k + exc wo ga lim L (m + k) := rfl
    have h2 := St.two_any (run (exc wo ga lim L) m k) (exc wo ga lim L (m + k)) W
    rw [St.St.fit_mid hb0.1 (by omega), St.St.fit_mid he (by omega), St.St.cap_mid (by omega), ← hr] at h2
    exact h2)
  have HP := Lib.hid h
  unfold tot
  obtain ⟨m0, hm0, hm1, hm2⟩ : ∃ m0 : Int, max a 0 = m0 ∧ 0 ≤ m0 ∧ m0 ≤ 9223372036854775807 := ⟨_, rfl, by omega, by omega⟩
  rw [hm0]
  obtain ⟨K, hK, hK1⟩ : ∃ K : Nat, (min b 1048576 - m0).toNat = K ∧ K ≤ 1048576 := ⟨_, rfl, by omega⟩
  rw [hK]
  have HK := Lib.hid (show ∀ k : Nat, k ≤ K → (k < K → m0 + (k : Int) < b ∧ m0 + (k : Int) ≤ 1048575) ∧ (¬ k < K → k = K ∧ ¬ (m0 + (k : Int) < b ∧ m0 + (k : Int) ≤ 1048575)) from fun k hk => ⟨fun h => by omega, fun h => by omega⟩)
  have H0 := Lib.hid (show a ≤ 0 → m0 = 0 by omega)
  have H1 := Lib.hid (show ¬ a ≤ 0 → m0 = a by omega)
  clear h hm0 hK hR hm hl hL
  generalize exc wo ga lim L = f at *
  by_cases ha : a ≤ 0
  all_goals
    go_enter Try.func29, Try.ntmps29
    go_wp2_with fail
    refine (T.out _).mono ?_
    rintro e w1 ⟨rfl, rfl⟩
    go_wp2_with fail
    go_loopw [10, 11] (fun vs vm wr => ∃ k : Nat, k ≤ K ∧ vs = .int .i64 (run f m0 k) ∧ vm = .int .i64 (m0 + k) ∧ Hid (Below w.heap.size w wr)) (fun _ vm _ => (m0 + K - RowKit.intOf vm).toNat)
    case atStart => exact ⟨0, Nat.zero_le _, rfl, by first | (rw [H0.out (by omega)]; rfl) | (rw [H1.out (by omega)]; simp), Lib.hid (Below.refl _ _)⟩
    case round =>
      obtain ⟨k, hk, rfl, rfl, HB⟩ := hrel
      by_cases hlt : k < K
      · obtain ⟨c1, c2⟩ := (HK.out k hk).1 hlt
        have d1 : decide (m0 + (k : Int) < b) = true := by simpa using c1
        have d2 : decide (m0 + (k : Int) ≤ 1048575) = true := by simpa using c2
        have hk0 : (0 : Int) ≤ (k : Int) := by omega
        have hk1 : k + 1 ≤ K := by omega
        clear hlt
        go_wp2_with fail
        refine (X.out _ (m0 + k) (HP.out.below HB.out)).mono ?_
        rintro e w2 ⟨rfl, hb⟩
        have HB2 := Lib.hid (then_ HB.out hb)
        clear hb HB
        go_wp2_with fail
        refine (W2.out k m0 _ (by omega)).mono ?_
        rintro e w3 ⟨rfl, rfl⟩
        go_wp2
        go_roundw
        case rel => exact ⟨k + 1, hk1, rfl, by rw [Int.natCast_add, ← Int.add_assoc]; rfl, HB2⟩
        case measure => simp [RowKit.intOf]; omega
      · obtain ⟨rfl, c⟩ := (HK.out k hk).2 hlt
        by_cases c1 : m0 + (k : Int) < b
        · have c2 : ¬ m0 + (k : Int) ≤ 1048575 := fun h => c ⟨c1, h⟩
          have d1 : decide (m0 + (k : Int) < b) = true := by simpa using c1
          have d2 : decide (m0 + (k : Int) ≤ 1048575) = false := by simpa using c2
          clear c c1 c2 hlt
          go_wp2
          go_ret
          exact ⟨rfl, HB.out⟩
        · have d1 : decide (m0 + (k : Int) < b) = false := by simpa using c1
          clear c c1 hlt
          go_wp2
          go_ret
          exact ⟨rfl, HB.out⟩
theorem rsum_no (B g : Nat) (v : Value) (wo ga lim : Int) (L : List Rd) (a b : Int) (w : World) (_ : RSer w B g v wo ga L) (hl : tenB lim = false) :
    Calls Try.prog 29 #[.pointer (some ⟨g, 0, none⟩), .int .i64 lim, .int .i64 a, .int .i64 b] w fun e w' => e = .returned (.int .i64 0) ∧ Below w.heap.size w w' := by
  have T := Lib.hid (fun W => rten_any lim W)
  rw [hl] at T
  clear hl
  go_enter Try.func29, Try.ntmps29
  go_wp2_with fail
  refine (T.out _).mono ?_
  rintro e w1 ⟨rfl, rfl⟩
  go_wp2
  go_ret
  exact ⟨rfl, Below.refl _ _⟩
end Ex
end Go.Proofs.Ytehiclmkdpcplaa

namespace Go.Proofs.Ytehiclmkdpcplaa
open Go.RowKit

namespace Lg
open Se
/-- A zone, and where its series lies: its block, its readings' slice, the readings as they lie. -/
structure Rz where
  z : Zl
  g : Nat
  v : Value
  L : List Rd
def icells (y : Rz) : List Value := [.int .i64 y.z.id]
def pcells (y : Rz) : List Value := [.pointer (some ⟨y.g, 0, none⟩)]
theorem icells_len (y : Rz) : (icells y).length = 1 := rfl
theorem pcells_len (y : Rz) : (pcells y).length = 1 := rfl
/-- The document's ledger: at block g. -/
structure RLg (W : World) (B g : Nat) (vI vS : Value) (l : List Rz) : Prop where
  base : B ≤ g
  blk : Lies W g 57 #[vI, vS]
  rowI : W.ownsRow B 3 1 vI l.length (l.flatMap icells)
  rowS : W.ownsRow B 63 1 vS l.length (l.flatMap pcells)
  ser : ∀ y ∈ l, RSer W B y.g y.v y.z.wo y.z.ga y.L ∧ Like y.z.S y.L ∧ Apart y.L
  apart : ∀ y ∈ l, ∀ k, Feet y.g y.v k → k ≠ g ∧ vI.ownBlock ≠ some k ∧ vS.ownBlock ≠ some k
  each : ∀ (i j : Nat) (a b : Rz), l[i]? = some a → l[j]? = some b → i ≠ j → ∀ k, Feet a.g a.v k → ¬ Feet b.g b.v k
  rows : ∀ k, vI.ownBlock = some k → vS.ownBlock ≠ some k
/-- What of memory is its. -/
def RFt (g : Nat) (vI vS : Value) (l : List Rz) (k : Nat) : Prop := k = g ∨ vI.ownBlock = some k ∨ vS.ownBlock = some k ∨ ∃ y ∈ l, Feet y.g y.v k
def zls (l : List Rz) : List Zl := l.map Rz.z
theorem RLg.foot {W : World} {B g : Nat} {vI vS : Value} {l : List Rz} (h : RLg W B g vI vS l) {k : Nat} (hk : RFt g vI vS l k) : B ≤ k ∧ k < W.heap.size := by
  rcases hk with rfl | hk | hk | ⟨y, hy, hk⟩
  · exact ⟨h.base, h.blk.lt⟩
  · exact own_lt h.rowI hk
  · exact own_lt h.rowS hk
  · exact (h.ser y hy).1.foot hk
theorem RLg.turn {w w' : World} {B g : Nat} {vI vS : Value} {l : List Rz} {T : Nat → Prop} (h : RLg w B g vI vS l) (ht : Turn T w w') (hf : ∀ k, RFt g vI vS l k → ¬ T k) : RLg w' B g vI vS l :=
  ⟨h.base, h.blk.turn ht (hf g (.inl rfl)), own_turn h.rowI ht (fun k hk => hf k (.inr (.inl hk))), own_turn h.rowS ht (fun k hk => hf k (.inr (.inr (.inl hk)))),
    fun y hy => ⟨(h.ser y hy).1.turn ht (fun k hk => hf k (.inr (.inr (.inr ⟨y, hy, hk⟩)))), (h.ser y hy).2⟩, h.apart, h.each, h.rows⟩
theorem RLg.keep {w w' : World} {B g : Nat} {vI vS : Value} {l : List Rz} (h : RLg w B g vI vS l) (hb : Below w.heap.size w w') : RLg w' B g vI vS l :=
  h.turn (T := fun _ => False) (Turn.of_below hb) (fun _ _ hf => hf)
/-- Its slices. -/
theorem rlg_slices {W : World} {B g : Nat} {vI vS : Value} {l : List Rz} (h : RLg W B g vI vS l) : ∃ p c q d, vI = .slice p l.length c ∧ vS = .slice q l.length d ∧ l.length ≤ c ∧ l.length ≤ d := by
  obtain ⟨p, c, rfl, hc, _⟩ := rw_own icells_len h.rowI
  obtain ⟨q, d, rfl, hd, _⟩ := rw_own pcells_len h.rowS
  exact ⟨p, c, q, d, rfl, rfl, hc, hd⟩
/-- A zone's ID, and its series, in the slices. -/
theorem rlg_at {W : World} {B g n : Nat} {p q : Option Addr} {c d : Nat} {l : List Rz} (h : RLg W B g (.slice p n c) (.slice q n d) l) (hn : l.length = n) {i : Nat} {y : Rz} (hy : l[i]? = some y) :
    ∃ b b2, p = some ⟨b, 0, none⟩ ∧ q = some ⟨b2, 0, none⟩ ∧ W.cell? ⟨b, i, none⟩ = some (.int .i64 y.z.id) ∧ W.cell? ⟨b2, i, none⟩ = some (.pointer (some ⟨y.g, 0, none⟩)) ∧ b < W.heap.size ∧ b2 < W.heap.size := by
  have hI := h.rowI
  have hS := h.rowS
  have hi : i < n := by rw [← hn]; exact (List.getElem?_eq_some_iff.1 hy).1
  rw [hn] at hI hS
  obtain ⟨b, c', e, _, hb2, _⟩ := own_some hI (by omega)
  injection e with e1 e2 e3
  subst e1 e3
  obtain ⟨b', d', e, _, hb2', _⟩ := own_some hS (by omega)
  injection e with e1 e2 e3
  subst e1 e3
  have k1 := row_cell icells_len hI hn hy (i := 0) (by decide)
  have k2 := row_cell pcells_len hS hn hy (i := 0) (by decide)
  rw [Nat.mul_one, Nat.add_zero] at k1 k2
  exact ⟨b, b', rfl, rfl, k1, k2, hb2, hb2'⟩
/-- What a call leaves that writes. -/
def Rg (W : World) (B g : Nat) (F : Nat → Prop) (st : List Zl) : Prop := ∃ vI vS l, RLg W B g vI vS l ∧ zls l = st ∧ F = RFt g vI vS l
theorem Rg.foot {W : World} {B g : Nat} {F : Nat → Prop} {st : List Zl} (h : Rg W B g F st) {k : Nat} (hk : F k) : B ≤ k ∧ k < W.heap.size := by
  obtain ⟨vI, vS, l, h1, _, rfl⟩ := h
  exact h1.foot hk
theorem Rg.turn {w w' : World} {B g : Nat} {F T : Nat → Prop} {st : List Zl} (h : Rg w B g F st) (ht : Turn T w w') (hf : ∀ k, F k → ¬ T k) : Rg w' B g F st := by
  obtain ⟨vI, vS, l, h1, h2, rfl⟩ := h
  exact ⟨vI, vS, l, h1.turn ht hf, h2, rfl⟩
theorem Rg.keep {w w' : World} {B g : Nat} {F : Nat → Prop} {st : List Zl} (h : Rg w B g F st) (hb : Below w.heap.size w w') : Rg w' B g F st :=
  h.turn (T := fun _ => False) (Turn.of_below hb) (fun _ _ hf => hf)
/-- What an act leaves of a ledger. -/
def Left (DB : World → Nat → Nat → (Nat → Prop) → List Zl → Prop) (w : World) (B h : Nat) (F : Nat → Prop) (s : List Zl) (w' : World) : Prop := ∃ F', DB w' B h F' s ∧ Turn F w w' ∧ ∀ k, F' k → F k ∨ w.heap.size ≤ k
theorem left_keep {DB : World → Nat → Nat → (Nat → Prop) → List Zl → Prop} {w w' : World} {B h : Nat} {F : Nat → Prop} {s : List Zl} (hd : DB w' B h F s) (hb : Below w.heap.size w w') : Left DB w B h F s w' :=
  ⟨F, hd, Turn.of_below hb, fun _ hk => .inl hk⟩
theorem set_same {α : Type} {l : List α} {i : Nat} {v : α} (h : l[i]? = some v) : l.set i v = l := by
  obtain ⟨hi, rfl⟩ := List.getElem?_eq_some_iff.1 h
  exact List.set_getElem_self hi
/-- A zone's series has turned. -/
theorem rlg_put {w w' : World} {B g : Nat} {vI vS : Value} {l : List Rz} (h : RLg w B g vI vS l) {i : Nat} {y : Rz} (hy : l[i]? = some y) {v' : Value} {L' S' : List Rd} (hr : RSer w' B y.g v' y.z.wo y.z.ga L') (ht : Turn (Feet y.g y.v) w w')
    (hv : ∀ b, v'.ownBlock = some b → y.v.ownBlock = some b ∨ w.heap.size ≤ b) (hl : Like S' L') (ha : Apart L') :
    RLg w' B g vI vS (l.set i ⟨{ y.z with S := S' }, y.g, v', L'⟩) ∧ ∀ k, RFt g vI vS (l.set i ⟨{ y.z with S := S' }, y.g, v', L'⟩) k → RFt g vI vS l k ∨ w.heap.size ≤ k := by
  have hym := List.mem_of_getElem? hy
  have hft : ∀ k, Feet y.g v' k → Feet y.g y.v k ∨ w.heap.size ≤ k := fun k hk => by
    rcases hk with rfl | hk
    · exact .inl (.inl rfl)
    · exact (hv k hk).imp .inr id
  have hi : i < l.length := (List.getElem?_eq_some_iff.1 hy).1
  have hmem : ∀ z ∈ l.set i ⟨{ y.z with S := S' }, y.g, v', L'⟩, z = ⟨{ y.z with S := S' }, y.g, v', L'⟩ ∨ ∃ j, j ≠ i ∧ l[j]? = some z := fun z hz => by
    obtain ⟨j, hj, e⟩ := List.mem_iff_getElem.1 hz
    have e2 : (l.set i ⟨{ y.z with S := S' }, y.g, v', L'⟩)[j]? = some z := by rw [List.getElem?_eq_getElem hj, e]
    by_cases hji : j = i
    · subst hji
      rw [List.getElem?_set_self hi] at e2
      exact .inl (Option.some.inj e2).symm
    · rw [List.getElem?_set_ne (Ne.symm hji)] at e2
      exact .inr ⟨j, hji, e2⟩
  have hlen : (l.set i ⟨{ y.z with S := S' }, y.g, v', L'⟩).length = l.length := List.length_set ..
  have fI : (l.set i ⟨{ y.z with S := S' }, y.g, v', L'⟩).flatMap icells = l.flatMap icells := by
    rw [flat_set icells_len l i 0 y ⟨{ y.z with S := S' }, y.g, v', L'⟩ (.int .i64 y.z.id) hy (by decide) rfl]
    have k1 := flat_at icells_len l i 0 y hy (by decide)
    exact set_same k1
  have fS : (l.set i ⟨{ y.z with S := S' }, y.g, v', L'⟩).flatMap pcells = l.flatMap pcells := by
    rw [flat_set pcells_len l i 0 y ⟨{ y.z with S := S' }, y.g, v', L'⟩ (.pointer (some ⟨y.g, 0, none⟩)) hy (by decide) rfl]
    have k1 := flat_at pcells_len l i 0 y hy (by decide)
    exact set_same k1
  refine ⟨⟨h.base, h.blk.turn ht (fun hh => (h.apart y hym g hh).1 rfl), ?_, ?_, fun z hz => ?_, fun z hz k hk => ?_, fun a b x z hx hz hab k hk => ?_, h.rows⟩, fun k hk => ?_⟩
  · rw [hlen, fI]
    exact own_turn h.rowI ht (fun k hk hh => (h.apart y hym k hh).2.1 hk)
  · rw [hlen, fS]
    exact own_turn h.rowS ht (fun k hk hh => (h.apart y hym k hh).2.2 hk)
  · rcases hmem z hz with rfl | ⟨j, hj, hz2⟩
    · exact ⟨hr, hl, ha⟩
    · have hz3 := List.mem_of_getElem? hz2
      exact ⟨(h.ser z hz3).1.turn ht (fun k hk hh => h.each j i z y hz2 hy hj k hk hh), (h.ser z hz3).2⟩
  · rcases hmem z hz with rfl | ⟨j, hj, hz2⟩
    · rcases hft k hk with hk | hk
      · exact h.apart y hym k hk
      · have h1 := h.blk.lt
        exact ⟨by omega, fun e => by have := (own_lt h.rowI e).2; omega, fun e => by have := (own_lt h.rowS e).2; omega⟩
    · exact h.apart z (List.mem_of_getElem? hz2) k hk
  · by_cases hai : a = i
    · subst hai
      rw [List.getElem?_set_self hi] at hx
      obtain rfl := Option.some.inj hx
      have hz2 : l[b]? = some z := by rwa [List.getElem?_set_ne hab] at hz
      intro hh
      rcases hft k hk with hk | hk
      · exact h.each a b y z hy hz2 hab k hk hh
      · have := ((h.ser z (List.mem_of_getElem? hz2)).1.foot hh).2
        omega
    · have hx2 : l[a]? = some x := by rwa [List.getElem?_set_ne (Ne.symm hai)] at hx
      by_cases hbi : b = i
      · subst hbi
        rw [List.getElem?_set_self hi] at hz
        obtain rfl := Option.some.inj hz
        intro hh
        rcases hft k hh with hh | hh
        · exact h.each a b x y hx2 hy hab k hk hh
        · have := ((h.ser x (List.mem_of_getElem? hx2)).1.foot hk).2
          omega
      · have hz2 : l[b]? = some z := by rwa [List.getElem?_set_ne (Ne.symm hbi)] at hz
        exact h.each a b x z hx2 hz2 hab k hk
  · rcases hk with hk | hk | hk | ⟨z, hz, hk⟩
    · exact .inl (.inl hk)
    · exact .inl (.inr (.inl hk))
    · exact .inl (.inr (.inr (.inl hk)))
    · rcases hmem z hz with rfl | ⟨j, hj, hz2⟩
      · rcases hft k hk with hk | hk
        · exact .inl (.inr (.inr (.inr ⟨y, hym, hk⟩)))
        · exact .inr hk
      · exact .inl (.inr (.inr (.inr ⟨z, List.mem_of_getElem? hz2, hk⟩)))
theorem zls_set {l : List Rz} {i : Nat} {y : Rz} : zls (l.set i y) = (zls l).set i y.z := by unfold zls; rw [List.map_set]
theorem zls_at {l : List Rz} {i : Nat} : (zls l)[i]? = (l[i]?).map Rz.z := by unfold zls; rw [List.getElem?_map]
end Lg
end Go.Proofs.Ytehiclmkdpcplaa
