/- Walks over the document's answer of layer 6: the reading that counts, the air. No condition but those written. -/
import Derived.Test.YtfmnbmjfkplieaaSe3
namespace Go.Proofs.Ytfmnbmjfkplieaa
open Go.RowKit

namespace Se
def zcells : Array Value := #[.int .i64 0, .int .i64 0, .int .i64 0]
/-- What is known of a series' readings at any later world: its slice, an element's cells. -/
theorem rser_at {w : World} {B g : Nat} {q : Option Addr} {n d : Nat} {wo ga : Int} {L : List Rd} (h : RSer w B g (.slice q n d) wo ga L) {k : Nat} {x : Rd} (hx : L[k]? = some x) :
    ∃ b, q = some ⟨b, 0, none⟩ ∧ n = L.length ∧ n ≤ d ∧ w.cell? ⟨b, k * 3, none⟩ = some (.int .i64 x.min) ∧ w.cell? ⟨b, k * 3 + 1, none⟩ = some (.int .i64 x.seq) ∧ w.cell? ⟨b, k * 3 + 2, none⟩ = some (.int .i64 x.ten) := by
  have hk : k < L.length := (List.getElem?_eq_some_iff.1 hx).1
  obtain ⟨b, c, e, _, _, hnc⟩ := own_some h.2.2 (by omega)
  cases e
  exact ⟨b, rfl, rfl, hnc, row_cell rcells_len h.2.2 rfl hx (i := 0) (by decide), row_cell rcells_len h.2.2 rfl hx (i := 1) (by decide), row_cell rcells_len h.2.2 rfl hx (i := 2) (by decide)⟩
/-- What the walk keeps of the reading that counts, so far. -/
def outOf (o : Option Rd) : Rd := o.getD zero
def ocells (o : Option Rd) : Array Value := #[.int .i64 (outOf o).min, .int .i64 (outOf o).seq, .int .i64 (outOf o).ten]
theorem last_next {L : List Rd} {k : Nat} {x : Rd} {m : Int} (hx : L[k]? = some x) : lastL (L.take (k + 1)) m = lastStep m (lastL (L.take k) m) x := by
  rw [List.take_add_one, hx, Option.toList_some, lastL_snoc]
theorem z3facts {w : World} {b : Nat} (h : Lies w b 37 zcells) :
    (w.cell? ⟨b, 0, none⟩ = some (.int .i64 0) ∧ w.cell? ⟨b, 1, none⟩ = some (.int .i64 0) ∧ w.cell? ⟨b, 2, none⟩ = some (.int .i64 0)) ∧
    (w.frozen? ⟨b, 0, none⟩ = false ∧ w.frozen? ⟨b, 1, none⟩ = false ∧ w.frozen? ⟨b, 2, none⟩ = false) :=
  ⟨⟨h.cell 0, h.cell 1, h.cell 2⟩, ⟨h.frozen 0, h.frozen 1, h.frozen 2⟩⟩
/-- A reading is kept. -/
theorem sput {w w2 : World} {a0 a1 a2 : Value} (hb : Below w.heap.size w w2) (ho : Lies w2 (w.heap.size + 1) 37 #[a0, a1, a2]) (hz : Lies w2 w.heap.size 37 zcells) (x : Rd) :
    Below w.heap.size w (((w2.setCell ⟨w.heap.size + 1, 0, none⟩ (.int .i64 x.min)).setCell ⟨w.heap.size + 1, 1, none⟩ (.int .i64 x.seq)).setCell ⟨w.heap.size + 1, 2, none⟩ (.int .i64 x.ten)) ∧
    Lies (((w2.setCell ⟨w.heap.size + 1, 0, none⟩ (.int .i64 x.min)).setCell ⟨w.heap.size + 1, 1, none⟩ (.int .i64 x.seq)).setCell ⟨w.heap.size + 1, 2, none⟩ (.int .i64 x.ten)) (w.heap.size + 1) 37 (ocells (some x)) ∧
    Lies (((w2.setCell ⟨w.heap.size + 1, 0, none⟩ (.int .i64 x.min)).setCell ⟨w.heap.size + 1, 1, none⟩ (.int .i64 x.seq)).setCell ⟨w.heap.size + 1, 2, none⟩ (.int .i64 x.ten)) w.heap.size 37 zcells := by
  have t : Turn (fun k => k = w.heap.size + 1) w2 (((w2.setCell ⟨w.heap.size + 1, 0, none⟩ (.int .i64 x.min)).setCell ⟨w.heap.size + 1, 1, none⟩ (.int .i64 x.seq)).setCell ⟨w.heap.size + 1, 2, none⟩ (.int .i64 x.ten)) :=
    (((Turn.refl (fun k => k = w.heap.size + 1) w2).setCell (p := ⟨w.heap.size + 1, 0, none⟩) (.inl rfl) _).setCell (p := ⟨w.heap.size + 1, 1, none⟩) (.inl rfl) _).setCell (p := ⟨w.heap.size + 1, 2, none⟩) (.inl rfl) _
  refine ⟨t.below hb hb.size (fun i hi => by omega), ?_, hz.turn t (by omega)⟩
  have := ((ho.set_ 0 (.int .i64 x.min)).set_ 1 (.int .i64 x.seq)).set_ 2 (.int .i64 x.ten)
  exact this
theorem last_lo {m : Int} {o : Option Rd} {x : Rd} (h : m < x.min) : lastStep m o x = o := by
  unfold lastStep
  rw [if_pos h]
theorem last_none {m : Int} {x : Rd} (h : x.min ≤ m) : lastStep m none x = some x := by
  unfold lastStep
  rw [if_neg (by omega)]
theorem last_some {m : Int} {x y : Rd} (h : x.min ≤ m) : lastStep m (some y) x = if ltB y x then some x else some y := by
  unfold lastStep
  rw [if_neg (by omega)]
  simp only [ltB, decide_eq_true_eq]
set_option maxRecDepth 100000 in
set_option maxHeartbeats 8000000 in
theorem rlast_any (B g : Nat) (v : Value) (wo ga : Int) (L : List Rd) (m : Int) (w : World) (h : RSer w B g v wo ga L) (hR : ∀ x ∈ L, rightB x = true) (hg : 0 ≤ ga ∧ ga ≤ 1048575) (hm : m ≤ 9223372036854775807) (hL : L.length ≤ 1000000) :
    Calls Try.prog 59 #[.pointer (some ⟨g, 0, none⟩), .int .i64 m] w fun e w' =>
      e = .returned (.tuple #[rval (outOf (cnt ga L m)), .bool (cnt ga L m).isSome]) ∧ Below w.heap.size w w' := by
  obtain ⟨q, d, rfl⟩ := own_slice h.2.2
  have H := Lib.hid h
  have HR := Lib.hid hR
  have hL' : (L.length : Int) ≤ 1000000 := by omega
  obtain ⟨g0, g1⟩ := hg
  have B0 := Lib.hid ((alloc_below w (.cells zcells 37)).alloc (size_alloc _ _) (.cells zcells 37))
  have O0 := Lib.hid (show Lies ((w.alloc (.cells zcells 37)).alloc (.cells zcells 37)) (w.heap.size + 1) 37 (ocells none) by
    have := Lies.new (w.alloc (.cells zcells 37)) 37 zcells
    rwa [show (w.alloc (.cells zcells 37)).heap.size = w.heap.size + 1 by simp] at this)
  have Z0 := Lib.hid ((Lies.new w 37 zcells).alloc (.cells zcells 37))
  clear h hR
  go_enter Try.func59, Try.ntmps59
  go_wp2_with fail
  go_loopw [7, 8] (fun sm i wr => ∃ (k : Nat) (o : Option Rd), k ≤ L.length ∧ i = .int .i64 k ∧ sm = .bool o.isSome ∧ Hid (o = lastL (L.take k) m) ∧ Hid (Below w.heap.size w wr) ∧ Hid (Lies wr (w.heap.size + 1) 37 (ocells o)) ∧ Hid (Lies wr w.heap.size 37 zcells)) (fun _ i _ => L.length - (intOf i).toNat)
  case atStart => exact ⟨0, none, Nat.zero_le _, rfl, rfl, Lib.hid rfl, B0, O0, Z0⟩
  case round =>
    clear B0 O0 Z0
    obtain ⟨k, o, hk, rfl, rfl, HO, HB, OC, ZC⟩ := hrel
    have c2 : wr.cell? ⟨g, 2, none⟩ = some (.slice q L.length d) := (H.out.below HB.out).2.1.cell 2
    have lg : g < wr.heap.size := (H.out.below HB.out).2.1.lt
    by_cases hlt : k < L.length
    · obtain ⟨x, hx⟩ : ∃ x, L[k]? = some x := ⟨_, List.getElem?_eq_getElem hlt⟩
      obtain ⟨b, rfl, _, hnc, e0, e1, e2⟩ := rser_at (H.out.below HB.out) hx
      have hk3 : (k : Int) < (L.length : Int) := by omega
      have HX := Lib.hid hx
      have lb := World.block_lt_of_cell? wr _ e0
      clear hx
      by_cases hmx : m < x.min
      · have HS := Lib.hid (show o = lastL (L.take (k + 1)) m by rw [last_next HX.out, ← HO.out, last_lo hmx])
        clear lb lg
        go_wp2
        go_roundw
        case rel => exact ⟨k + 1, o, by omega, by go_num, rfl, HS, HB, OC, ZC⟩
        case measure => simp [intOf]; omega
      · have hmx' : x.min ≤ m := by omega
        have HS := Lib.hid (show lastL (L.take (k + 1)) m = lastStep m o x by rw [last_next HX.out, ← HO.out])
        have HN := Lib.hid hmx'
        have o0 : wr.cell? ⟨w.heap.size + 1, 0, none⟩ = some (.int .i64 (outOf o).min) := OC.out.cell 0
        have o1 : wr.cell? ⟨w.heap.size + 1, 1, none⟩ = some (.int .i64 (outOf o).seq) := OC.out.cell 1
        have o2 : wr.cell? ⟨w.heap.size + 1, 2, none⟩ = some (.int .i64 (outOf o).ten) := OC.out.cell 2
        have lo := OC.out.lt
        have C := Lib.hid (fun W => rahead_any (outOf o) x W)
        unfold rval at C
        clear hmx
        obtain ⟨xm, xs, xt⟩ := x
        generalize hy : outOf o = y at *
        obtain ⟨ym, ys, yt⟩ := y
        have HY := Lib.hid hy
        simp only at *
        clear hy
        go_wp2_with fail
        go_region_held3 (fun w' => w'.cell? ⟨w.heap.size + 1, 0, none⟩ = some (.int .i64 ym) ∧ w'.cell? ⟨w.heap.size + 1, 1, none⟩ = some (.int .i64 ys) ∧ w'.cell? ⟨w.heap.size + 1, 2, none⟩ = some (.int .i64 yt) ∧ w'.cell? ⟨g, 2, none⟩ = some (.slice (some ⟨b, 0, none⟩) L.length d) ∧ w'.cell? ⟨b, k * 3, none⟩ = some (.int .i64 xm) ∧ w'.cell? ⟨b, k * 3 + 1, none⟩ = some (.int .i64 xs) ∧ w'.cell? ⟨b, k * 3 + 2, none⟩ = some (.int .i64 xt))
          (first | go_keep | exact ⟨d0, d1, d2, d3, d4, d5, d6⟩ | exact ⟨o0, o1, o2, c2, e0, e1, e2⟩)
          ((go_at_call 32; ((with_reducible refine (C.out _).mono ?_); rintro E w2 ⟨rfl, hb⟩; have d0 := (hb.cell (p := ⟨w.heap.size + 1, 0, none⟩) lo).trans o0; have d1 := (hb.cell (p := ⟨w.heap.size + 1, 1, none⟩) lo).trans o1; have d2 := (hb.cell (p := ⟨w.heap.size + 1, 2, none⟩) lo).trans o2; have d3 := (hb.cell (p := ⟨g, 2, none⟩) lg).trans c2; have d4 := (hb.cell (p := ⟨b, k * 3, none⟩) lb).trans e0; have d5 := (hb.cell (p := ⟨b, k * 3 + 1, none⟩) lb).trans e1; have d6 := (hb.cell (p := ⟨b, k * 3 + 2, none⟩) lb).trans e2)))
        have HB2 := Lib.hid (HB.out.drew.trans (hb.mono HB.out.size))
        have OC2 := Lib.hid (OC.out.below (show Below wr.heap.size wr w2 from ((Below.refl _ wr).drew).trans hb) lo)
        have ZC2 := Lib.hid (ZC.out.below (show Below wr.heap.size wr w2 from ((Below.refl _ wr).drew).trans hb) ZC.out.lt)
        have g0' := OC2.out.frozen 0
        have g1' := OC2.out.frozen 1
        have g2' := OC2.out.frozen 2
        have NX := Lib.hid (sput HB2.out OC2.out ZC2.out ⟨xm, xs, xt⟩)
        clear hb OC ZC HB lo lg lb o0 o1 o2 c2 e0 e1 e2 C
        rcases o with _ | y
        · have HS2 := Lib.hid (show some ⟨xm, xs, xt⟩ = lastL (L.take (k + 1)) m by rw [HS.out, last_none HN.out])
          go_wp2
          go_roundw
          case rel => exact ⟨k + 1, some ⟨xm, xs, xt⟩, by omega, by go_num, rfl, HS2, Lib.hid NX.out.1, Lib.hid NX.out.2.1, Lib.hid NX.out.2.2⟩
          case measure => simp [intOf]; omega
        · have HYY : y = ⟨ym, ys, yt⟩ := HY.out
          by_cases hb2 : ltB ⟨ym, ys, yt⟩ ⟨xm, xs, xt⟩ = true
          · have HS2 := Lib.hid (show some ⟨xm, xs, xt⟩ = lastL (L.take (k + 1)) m by rw [HS.out, last_some HN.out, HYY, if_pos hb2])
            clear HYY
            go_wp2
            go_roundw
            case rel => exact ⟨k + 1, some ⟨xm, xs, xt⟩, by omega, by go_num, rfl, HS2, Lib.hid NX.out.1, Lib.hid NX.out.2.1, Lib.hid NX.out.2.2⟩
            case measure => simp [intOf]; omega
          · have hb3 : ltB ⟨ym, ys, yt⟩ ⟨xm, xs, xt⟩ = false := by simpa using hb2
            have HS2 := Lib.hid (show some y = lastL (L.take (k + 1)) m by rw [HS.out, last_some HN.out, HYY, if_neg hb2])
            clear HYY hb2
            go_wp2
            go_roundw
            case rel => exact ⟨k + 1, some y, by omega, by go_num, rfl, HS2, HB2, OC2, ZC2⟩
            case measure => simp [intOf]; omega
    · obtain rfl : k = L.length := by omega
      have HO2 := HO.out
      rw [List.take_of_length_le (Nat.le_refl _)] at HO2
      have HS := lastL_spec L m
      rw [← HO2] at HS
      have c1 : wr.cell? ⟨g, 1, none⟩ = some (.int .i64 ga) := (H.out.below HB.out).2.1.cell 1
      obtain ⟨⟨r0, r1, r2⟩, ⟨f0, f1, f2⟩⟩ := z3facts ZC.out
      have o0 : wr.cell? ⟨w.heap.size + 1, 0, none⟩ = some (.int .i64 (outOf o).min) := OC.out.cell 0
      have o1 : wr.cell? ⟨w.heap.size + 1, 1, none⟩ = some (.int .i64 (outOf o).seq) := OC.out.cell 1
      have o2 : wr.cell? ⟨w.heap.size + 1, 2, none⟩ = some (.int .i64 (outOf o).ten) := OC.out.cell 2
      have HC : cnt ga L m = cntOf ga m o := by
        unfold cnt
        rw [← HO2]
      clear HO HO2 OC ZC
      rcases o with _ | y
      · have E := Lib.hid (show cnt ga L m = none from HC)
        clear HC HS
        go_wp2_with fail
        go_quiet (fail)
        go_wp2
        refine bodyPost_ret (v := .tuple #[rval zero, .bool false]) (by simp [results, Try.results59, go_sem, rval, zero, r0, r1, r2]) rfl ⟨by rw [E.out]; rfl, ?_⟩
        iterate 3 refine Below.setCell ?_ (show w.heap.size ≤ _ from Nat.le_refl _) _
        exact below_drewN HB.out _
      · obtain ⟨ym, ys, yt⟩ := y
        have hy : 0 ≤ ym ∧ ym ≤ m := by
          rcases HS with ⟨h, _⟩ | ⟨y, h, h2, h3, _⟩
          · cases h
          · cases h
            have := right_of (HR.out _ h2)
            simp only at this h3
            omega
        obtain ⟨y0, y1⟩ := hy
        have o0' : wr.cell? ⟨w.heap.size + 1, 0, none⟩ = some (.int .i64 ym) := o0
        have o1' : wr.cell? ⟨w.heap.size + 1, 1, none⟩ = some (.int .i64 ys) := o1
        have o2' : wr.cell? ⟨w.heap.size + 1, 2, none⟩ = some (.int .i64 yt) := o2
        clear HS o0 o1 o2
        simp only [cntOf] at HC
        have q1 : IntKind.i64.wrap (m - ym) = m - ym := IntWalk.i64_in _ (by omega)
        by_cases hga : ga < m - ym
        · have E := Lib.hid (show cnt ga L m = none by rw [HC, if_pos hga])
          clear HC
          go_wp2_with fail
          go_quiet (fail)
          go_wp2
          refine bodyPost_ret (v := .tuple #[rval zero, .bool false]) (by simp [results, Try.results59, go_sem, rval, zero, r0, r1, r2]) rfl ⟨by rw [E.out]; rfl, ?_⟩
          iterate 3 refine Below.setCell ?_ (show w.heap.size ≤ _ from Nat.le_refl _) _
          exact below_drewN HB.out _
        · have E := Lib.hid (show cnt ga L m = some ⟨ym, ys, yt⟩ by rw [HC, if_neg hga])
          clear HC
          go_wp2_with fail
          go_quiet (fail)
          go_wp2
          refine bodyPost_ret (v := .tuple #[rval ⟨ym, ys, yt⟩, .bool true]) (by simp [results, Try.results59, go_sem, rval, r0, r1, r2]) rfl ⟨by rw [E.out]; rfl, ?_⟩
          iterate 3 refine Below.setCell ?_ (show w.heap.size ≤ _ from Nat.le_refl _) _
          exact below_drewN HB.out _
end Se
end Go.Proofs.Ytfmnbmjfkplieaa
