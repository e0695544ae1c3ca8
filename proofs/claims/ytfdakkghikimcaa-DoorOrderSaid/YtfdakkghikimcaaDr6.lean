/- Walks over the document's answer of layer 8: a mark is put. No condition but those written. -/
import Derived.Test.YtfdakkghikimcaaDr5
namespace Go.Proofs.Ytfdakkghikimcaa
open Go.RowKit

namespace Dr
open Se
/-- One mark of the list goes by. -/
def step (r : Rd) (s : List Rd × Bool × Bool) (x : Rd) : List Rd × Bool × Bool :=
  if x.min = r.min ∧ x.seq = r.seq then (s.1 ++ [⟨x.min, x.seq, tenOf (opB x || opB r)⟩], true, opB r && !opB x)
  else if s.2.1 = false ∧ ltB ⟨r.min, r.seq, 0⟩ ⟨x.min, x.seq, 0⟩ = true then (s.1 ++ [r] ++ [x], true, s.2.2)
  else (s.1 ++ [x], s.2.1, s.2.2)
def start : List Rd × Bool × Bool := ([], false, true)
def putF (L : List Rd) (r : Rd) : List Rd × Bool :=
  let s := L.foldl (step r) start
  (if s.2.1 then s.1 else s.1 ++ [r], s.2.2)
theorem step_next {L : List Rd} {k : Nat} {x r : Rd} {s : List Rd × Bool × Bool} (hs : s = (L.take k).foldl (step r) start) (hx : L[k]? = some x) : step r s x = (L.take (k + 1)).foldl (step r) start := by
  rw [List.take_add_one, hx, Option.toList_some, List.foldl_append, ← hs]
  rfl
theorem dahead_raw (m s n u : Int) (oa ob : Bool) (w : World) : Calls Try.prog 21 #[.agg #[.int .i64 m, .int .i64 s, .bool oa], .agg #[.int .i64 n, .int .i64 u, .bool ob]] w fun e w' => e = .returned (.bool (ltB ⟨m, s, 0⟩ ⟨n, u, 0⟩)) ∧ Below w.heap.size w w' := by
  have h := dahead_any ⟨m, s, tenOf oa⟩ ⟨n, u, tenOf ob⟩ w
  unfold mval at h
  rw [opB_of, opB_of] at h
  exact h
theorem infoM : (Try.prog.info? 31).map (fun i => (i.zero, i.size, i.bytes)) = some (some (.agg #[.int .i64 0, .int .i64 0, .bool false]), 3, 24) := by kernel_rfl
set_option maxRecDepth 100000 in
set_option maxHeartbeats 1000000 in
theorem dput_no (p : Option Addr) (n c : Nat) (r : Rd) (w : World) (hr : rightM r = false) :
    Calls Try.prog 9 #[.slice p n c, mval r] w fun e w' => e = .returned (.tuple #[.slice p n c, .bool false, .int .i64 1]) ∧ Below w.heap.size w w' := by
  have R := Lib.hid (fun W => dright_any r W)
  rw [hr] at R
  unfold mval at *
  generalize opB r = om at *
  obtain ⟨m, s, t⟩ := r
  simp only at *
  have B0 := Lib.hid (alloc_below w (.cells #[.int .i64 m, .int .i64 s, .bool om] 31))
  clear hr
  go_enter Try.func9, Try.ntmps9
  go_wp2_with fail
  refine (R.out _).mono ?_
  rintro e w1 ⟨rfl, hb⟩
  have B1 := Lib.hid (B0.out.trans (hb.mono B0.out.size))
  clear hb
  go_wp2
  go_ret3
  exact ⟨rfl, B1.out⟩
theorem step_eq (r : Rd) (out : List Rd) (dn ch : Bool) (x : Rd) : step r (out, dn, ch) x = if x.min = r.min ∧ x.seq = r.seq then (out ++ [⟨x.min, x.seq, tenOf (opB x || opB r)⟩], true, opB r && !opB x)
    else if dn = false ∧ ltB ⟨r.min, r.seq, 0⟩ ⟨x.min, x.seq, 0⟩ = true then (out ++ [r] ++ [x], true, ch) else (out ++ [x], dn, ch) := rfl
theorem putF_eq (l : List Rd) (r : Rd) : putF l r = (if (l.foldl (step r) start).2.1 then (l.foldl (step r) start).1 else (l.foldl (step r) start).1 ++ [r], (l.foldl (step r) start).2.2) := rfl
theorem mcells_of (m s : Int) (b : Bool) : mcells ⟨m, s, tenOf b⟩ = [.int .i64 m, .int .i64 s, .bool b] := by rw [mcells, opB_of]
theorem below_set {B : Nat} {w1 wr : World} (hb : Below B w1 wr) (hB : B ≤ wr.heap.size) {g i : Nat} (hg : B ≤ g) (u : Value) : Below B w1 (wr.setCell ⟨g, i, none⟩ u) :=
  ((Turn.refl (fun k => k = g) wr).setCell (p := ⟨g, i, none⟩) (.inl rfl) u).below hb hB (fun i hi => by rw [hi]; exact hg)
theorem start_len {S : List Rd × Bool × Bool} {f : Nat} (x : Rd) (h : S.1.length = f) : (S.1 ++ [x]).length = f + 1 := by simp [h]
set_option maxRecDepth 100000 in
set_option maxHeartbeats 8000000 in
theorem dput_yes (p : Option Addr) (n c : Nat) (l : List Rd) (r : Rd) (w : World) (hn : n ≤ 1000000) (h : Rw 3 mcells w p n l) (hr : rightM r = true) (hB : binB r = true) (hl : ∀ x ∈ l, binB x = true) :
    Calls Try.prog 9 #[.slice p n c, mval r] w fun e w' => ∃ v, e = .returned (.tuple #[v, .bool (putF l r).2, .int .i64 0]) ∧ w'.ownsRow w.heap.size 31 3 v (putF l r).1.length ((putF l r).1.flatMap mcells) ∧ Below w.heap.size w w' := by
  have R := Lib.hid (fun W => dright_any r W)
  rw [hr] at R
  have H := Lib.hid h
  have HL := Lib.hid hl
  have HT := Lib.hid (ten_opB hB)
  have HM := Lib.hid (show mcells r = [.int .i64 r.min, .int .i64 r.seq, .bool (opB r)] from rfl)
  have ST := Lib.hid (fun out dn ch x => step_eq r out dn ch x)
  have PF := Lib.hid (putF_eq l r)
  unfold mval at *
  generalize opB r = om at *
  generalize hrm : r.min = m at *
  generalize hrs : r.seq = s at *
  clear hr hl h hB hrm hrs
  have B0 := Lib.hid (alloc_below w (.cells #[.int .i64 m, .int .i64 s, .bool om] 31))
  have X0 := Lib.hid (Lies.new w 31 #[.int .i64 m, .int .i64 s, .bool om])
  obtain ⟨i0, hi, hz0, hz1, hz2⟩ := info_parts infoM
  go_enter Try.func9, Try.ntmps9
  go_wp2_with fail
  refine (R.out _).mono ?_
  rintro e w1 ⟨rfl, hb⟩
  have B1 := Lib.hid (B0.out.trans (hb.mono B0.out.size))
  have X1 := Lib.hid (X0.out.below hb X0.out.lt)
  have H1 := Lib.hid (H.out.keep mcells_len B1.out)
  have lx : w.heap.size < w1.heap.size := X1.out.lt
  clear hb X0 B0 R H
  go_wp2_with fail
  go_loopw [8, 9, 10, 11] (fun v dn ch i wr => ∃ (k f : Nat) (S : List Rd × Bool × Bool), k ≤ n ∧ f ≤ 2 * k ∧ i = .int .i64 k ∧ (∃ q d, v = .slice q f d) ∧ dn = .bool S.2.1 ∧ ch = .bool S.2.2 ∧ Hid (S.1.length = f) ∧ Hid (S = (l.take k).foldl (step r) start) ∧ Hid (wr.ownsRow w1.heap.size 31 3 v f (S.1.flatMap mcells)) ∧ Hid (Below w1.heap.size w1 wr)) (fun _ _ _ i _ => n - (intOf i).toNat)
  case atStart => exact ⟨0, 0, start, Nat.zero_le _, Nat.zero_le _, rfl, ⟨none, 0, rfl⟩, rfl, rfl, Lib.hid rfl, Lib.hid rfl, Lib.hid (World.ownsRow_nil _ _ _ _), Lib.hid (Below.refl _ _)⟩
  case round =>
    obtain ⟨k, f, ⟨out, dn, ch⟩, hk, hf, rfl, ⟨q, d, rfl⟩, rfl, rfl, HF, HS, HO, HB⟩ := hrel
    have HF := Lib.hid (show out.length = f from HF.out)
    have HO := Lib.hid (show wr.ownsRow w1.heap.size 31 3 (.slice q f d) f (out.flatMap mcells) from HO.out)
    have XR := Lib.hid (X1.out.below HB.out lx)
    have hsz := HB.out.size
    have m0 : wr.cell? ⟨w.heap.size, 0, none⟩ = some (.int .i64 m) := XR.out.cell 0
    have m1 : wr.cell? ⟨w.heap.size, 1, none⟩ = some (.int .i64 s) := XR.out.cell 1
    have m2 : wr.cell? ⟨w.heap.size, 2, none⟩ = some (.bool om) := XR.out.cell 2
    by_cases hlt : k < n
    · have HR := H1.out.keep mcells_len HB.out
      obtain ⟨b, o, rfl, hc⟩ := HR.2 (by omega)
      obtain ⟨x, hx⟩ : ∃ x, l[k]? = some x := ⟨_, List.getElem?_eq_getElem (by rw [HR.1]; exact hlt)⟩
      have e0 : wr.cell? ⟨b, o + k * 3, none⟩ = some (.int .i64 x.min) := hc k x hx 0 (by decide)
      have e1 : wr.cell? ⟨b, o + k * 3 + 1, none⟩ = some (.int .i64 x.seq) := hc k x hx 1 (by decide)
      have e2 : wr.cell? ⟨b, o + k * 3 + 2, none⟩ = some (.bool (opB x)) := hc k x hx 2 (by decide)
      have hk3 : (k : Int) < (n : Int) := by omega
      have SN := Lib.hid (step_next HS.out hx)
      have SV := Lib.hid (ST.out out dn ch x)
      have C := Lib.hid (fun oa ob W => dahead_raw m s x.min x.seq oa ob W)
      have HMX := Lib.hid (show mcells x = [.int .i64 x.min, .int .i64 x.seq, .bool (opB x)] from rfl)
      clear hc hx HR
      generalize opB x = ox at *
      generalize hxm : x.min = xm at *
      generalize hxs : x.seq = xs at *
      clear hxm hxs
      have F : ∀ ob i, (wr.alloc ob).cell? ⟨w.heap.size, i, none⟩ = wr.cell? ⟨w.heap.size, i, none⟩ := fun ob i => (alloc_below wr ob).cell (p := ⟨w.heap.size, i, none⟩) XR.out.lt
      by_cases h1 : xm = m
      · by_cases h2 : xs = s
        · subst h1 h2
          have SV2 := Lib.hid (show step r (out, dn, ch) x = (out ++ [⟨xm, xs, tenOf (ox || om)⟩], true, om && !ox) by rw [SV.out, if_pos ⟨rfl, rfl⟩])
          generalize ltB ⟨xm, xs, 0⟩ ⟨xm, xs, 0⟩ = bf at *
          cases om <;> cases ox
          · go_wp2_with fail
            refine (C.out _ _ _).mono ?_
            rintro e w2 ⟨rfl, hb2⟩
            have HB2 := Lib.hid (show Below w1.heap.size w1 w2 from (HB.out.alloc hsz _).trans (hb2.mono (Nat.le_trans hsz (by simp))))
            have hs2 := HB2.out.size
            have XL := Lib.hid ((Lies.new wr 31 #[.int .i64 xm, .int .i64 xs, .bool false]).below hb2 (by simp))
            have OW := Lib.hid (own_turn (own_turn HO.out (Turn.of_below (S := fun _ => False) (alloc_below wr _)) (fun _ _ hf => hf)) (Turn.of_below (S := fun _ => False) hb2) (fun _ _ hf => hf))
            have ML := Lib.hid (X1.out.below HB2.out lx)
            have z0 : w2.cell? ⟨wr.heap.size, 0, none⟩ = some (.int .i64 xm) := XL.out.cell 0
            have z1 : w2.cell? ⟨wr.heap.size, 1, none⟩ = some (.int .i64 xs) := XL.out.cell 1
            have z2 : w2.cell? ⟨wr.heap.size, 2, none⟩ = some (.bool false) := XL.out.cell 2
            have n0 : w2.cell? ⟨w.heap.size, 0, none⟩ = some (.int .i64 xm) := ML.out.cell 0
            have n1 : w2.cell? ⟨w.heap.size, 1, none⟩ = some (.int .i64 xs) := ML.out.cell 1
            have n2 : w2.cell? ⟨w.heap.size, 2, none⟩ = some (.bool false) := ML.out.cell 2
            clear hb2 m0 m1 m2 e0 e1 e2 F
            go_wp2_with (at_builtin; refine wpList_append_own _ rfl _ _ 22 rfl w1.heap.size 31 i0 _ 3 24 Try.underlying22 hi hz0 hz1 hz2 rfl (by decide) _ _ _ rfl (OW.out.alloc _) ⟨w2.heap.size, 0, none⟩ 1 1 [.int .i64 xm, .int .i64 xs, .bool false] rfl rfl (World.news_of_block (cs := #[.int .i64 xm, .int .i64 xs, .bool false]) (t := 31) (fr := (0, 0)) (heap_alloc_new w2 _)) (by simp [Value.oneCell']) (by unfold maxLen; omega) (by omega) (by simp; omega) ?_; intro v3 w3 hown3 hg3 _; have HB3 := Lib.hid ((HB2.out.alloc hs2 (.cells #[.int .i64 xm, .int .i64 xs, .bool false] 31)).grown hg3 (Nat.le_trans hs2 (size_alloc _ _)) (fun i hi => (OW.out.lt i hi).1)); have hs3 := HB3.out.size)
            obtain ⟨q3, d3, rfl⟩ := own_slice hown3
            have OW3 := Lib.hid hown3
            clear hown3 hg3
            go_wp2
            go_roundw
            case rel => exact ⟨k + 1, f + 1, (out ++ [⟨xm, xs, tenOf false⟩], true, false), by omega, by omega, by go_num, ⟨_, _, rfl⟩, rfl, rfl, Lib.hid (by have := HF.out; simp only at this ⊢; simp [this]), Lib.hid (SV2.out.symm.trans SN.out), Lib.hid (by
              have := OW3.out
              simpa [HM.out, HMX.out, mcells_of] using this), HB3⟩
            case measure => simp [intOf]; omega
          · go_wp2_with fail
            refine (C.out _ _ _).mono ?_
            rintro e w2 ⟨rfl, hb2⟩
            have HB2 := Lib.hid (show Below w1.heap.size w1 w2 from (HB.out.alloc hsz _).trans (hb2.mono (Nat.le_trans hsz (by simp))))
            have hs2 := HB2.out.size
            have XL := Lib.hid ((Lies.new wr 31 #[.int .i64 xm, .int .i64 xs, .bool true]).below hb2 (by simp))
            have OW := Lib.hid (own_turn (own_turn HO.out (Turn.of_below (S := fun _ => False) (alloc_below wr _)) (fun _ _ hf => hf)) (Turn.of_below (S := fun _ => False) hb2) (fun _ _ hf => hf))
            have ML := Lib.hid (X1.out.below HB2.out lx)
            have z0 : w2.cell? ⟨wr.heap.size, 0, none⟩ = some (.int .i64 xm) := XL.out.cell 0
            have z1 : w2.cell? ⟨wr.heap.size, 1, none⟩ = some (.int .i64 xs) := XL.out.cell 1
            have z2 : w2.cell? ⟨wr.heap.size, 2, none⟩ = some (.bool true) := XL.out.cell 2
            have n0 : w2.cell? ⟨w.heap.size, 0, none⟩ = some (.int .i64 xm) := ML.out.cell 0
            have n1 : w2.cell? ⟨w.heap.size, 1, none⟩ = some (.int .i64 xs) := ML.out.cell 1
            have n2 : w2.cell? ⟨w.heap.size, 2, none⟩ = some (.bool false) := ML.out.cell 2
            clear hb2 m0 m1 m2 e0 e1 e2 F
            go_wp2_with (at_builtin; refine wpList_append_own _ rfl _ _ 22 rfl w1.heap.size 31 i0 _ 3 24 Try.underlying22 hi hz0 hz1 hz2 rfl (by decide) _ _ _ rfl (OW.out.alloc _) ⟨w2.heap.size, 0, none⟩ 1 1 [.int .i64 xm, .int .i64 xs, .bool true] rfl rfl (World.news_of_block (cs := #[.int .i64 xm, .int .i64 xs, .bool true]) (t := 31) (fr := (0, 0)) (heap_alloc_new w2 _)) (by simp [Value.oneCell']) (by unfold maxLen; omega) (by omega) (by simp; omega) ?_; intro v3 w3 hown3 hg3 _; have HB3 := Lib.hid ((HB2.out.alloc hs2 (.cells #[.int .i64 xm, .int .i64 xs, .bool true] 31)).grown hg3 (Nat.le_trans hs2 (size_alloc _ _)) (fun i hi => (OW.out.lt i hi).1)); have hs3 := HB3.out.size)
            obtain ⟨q3, d3, rfl⟩ := own_slice hown3
            have OW3 := Lib.hid hown3
            clear hown3 hg3
            go_wp2
            go_roundw
            case rel => exact ⟨k + 1, f + 1, (out ++ [⟨xm, xs, tenOf true⟩], true, false), by omega, by omega, by go_num, ⟨_, _, rfl⟩, rfl, rfl, Lib.hid (by have := HF.out; simp only at this ⊢; simp [this]), Lib.hid (SV2.out.symm.trans SN.out), Lib.hid (by
              have := OW3.out
              simpa [HM.out, HMX.out, mcells_of] using this), HB3⟩
            case measure => simp [intOf]; omega
          · go_wp2_with fail
            refine (C.out _ _ _).mono ?_
            rintro e w2 ⟨rfl, hb2⟩
            have HB2 := Lib.hid (show Below w1.heap.size w1 w2 from (HB.out.alloc hsz _).trans (hb2.mono (Nat.le_trans hsz (by simp))))
            have hs2 := HB2.out.size
            have XL := Lib.hid ((Lies.new wr 31 #[.int .i64 xm, .int .i64 xs, .bool true]).below hb2 (by simp))
            have OW := Lib.hid (own_turn (own_turn HO.out (Turn.of_below (S := fun _ => False) (alloc_below wr _)) (fun _ _ hf => hf)) (Turn.of_below (S := fun _ => False) hb2) (fun _ _ hf => hf))
            have ML := Lib.hid (X1.out.below HB2.out lx)
            have z0 : w2.cell? ⟨wr.heap.size, 0, none⟩ = some (.int .i64 xm) := XL.out.cell 0
            have z1 : w2.cell? ⟨wr.heap.size, 1, none⟩ = some (.int .i64 xs) := XL.out.cell 1
            have z2 : w2.cell? ⟨wr.heap.size, 2, none⟩ = some (.bool true) := XL.out.cell 2
            have n0 : w2.cell? ⟨w.heap.size, 0, none⟩ = some (.int .i64 xm) := ML.out.cell 0
            have n1 : w2.cell? ⟨w.heap.size, 1, none⟩ = some (.int .i64 xs) := ML.out.cell 1
            have n2 : w2.cell? ⟨w.heap.size, 2, none⟩ = some (.bool true) := ML.out.cell 2
            clear hb2 m0 m1 m2 e0 e1 e2 F
            go_wp2_with (at_builtin; refine wpList_append_own _ rfl _ _ 22 rfl w1.heap.size 31 i0 _ 3 24 Try.underlying22 hi hz0 hz1 hz2 rfl (by decide) _ _ _ rfl (OW.out.alloc _) ⟨w2.heap.size, 0, none⟩ 1 1 [.int .i64 xm, .int .i64 xs, .bool true] rfl rfl (World.news_of_block (cs := #[.int .i64 xm, .int .i64 xs, .bool true]) (t := 31) (fr := (0, 0)) (heap_alloc_new w2 _)) (by simp [Value.oneCell']) (by unfold maxLen; omega) (by omega) (by simp; omega) ?_; intro v3 w3 hown3 hg3 _; have HB3 := Lib.hid ((HB2.out.alloc hs2 (.cells #[.int .i64 xm, .int .i64 xs, .bool true] 31)).grown hg3 (Nat.le_trans hs2 (size_alloc _ _)) (fun i hi => (OW.out.lt i hi).1)); have hs3 := HB3.out.size)
            obtain ⟨q3, d3, rfl⟩ := own_slice hown3
            have OW3 := Lib.hid hown3
            clear hown3 hg3
            go_wp2
            go_roundw
            case rel => exact ⟨k + 1, f + 1, (out ++ [⟨xm, xs, tenOf true⟩], true, true), by omega, by omega, by go_num, ⟨_, _, rfl⟩, rfl, rfl, Lib.hid (by have := HF.out; simp only at this ⊢; simp [this]), Lib.hid (SV2.out.symm.trans SN.out), Lib.hid (by
              have := OW3.out
              simpa [HM.out, HMX.out, mcells_of] using this), HB3⟩
            case measure => simp [intOf]; omega
          · go_wp2_with fail
            refine (C.out _ _ _).mono ?_
            rintro e w2 ⟨rfl, hb2⟩
            have HB2 := Lib.hid (show Below w1.heap.size w1 w2 from (HB.out.alloc hsz _).trans (hb2.mono (Nat.le_trans hsz (by simp))))
            have hs2 := HB2.out.size
            have XL := Lib.hid ((Lies.new wr 31 #[.int .i64 xm, .int .i64 xs, .bool true]).below hb2 (by simp))
            have OW := Lib.hid (own_turn (own_turn HO.out (Turn.of_below (S := fun _ => False) (alloc_below wr _)) (fun _ _ hf => hf)) (Turn.of_below (S := fun _ => False) hb2) (fun _ _ hf => hf))
            have ML := Lib.hid (X1.out.below HB2.out lx)
            have z0 : w2.cell? ⟨wr.heap.size, 0, none⟩ = some (.int .i64 xm) := XL.out.cell 0
            have z1 : w2.cell? ⟨wr.heap.size, 1, none⟩ = some (.int .i64 xs) := XL.out.cell 1
            have z2 : w2.cell? ⟨wr.heap.size, 2, none⟩ = some (.bool true) := XL.out.cell 2
            have n0 : w2.cell? ⟨w.heap.size, 0, none⟩ = some (.int .i64 xm) := ML.out.cell 0
            have n1 : w2.cell? ⟨w.heap.size, 1, none⟩ = some (.int .i64 xs) := ML.out.cell 1
            have n2 : w2.cell? ⟨w.heap.size, 2, none⟩ = some (.bool true) := ML.out.cell 2
            clear hb2 m0 m1 m2 e0 e1 e2 F
            go_wp2_with (at_builtin; refine wpList_append_own _ rfl _ _ 22 rfl w1.heap.size 31 i0 _ 3 24 Try.underlying22 hi hz0 hz1 hz2 rfl (by decide) _ _ _ rfl (OW.out.alloc _) ⟨w2.heap.size, 0, none⟩ 1 1 [.int .i64 xm, .int .i64 xs, .bool true] rfl rfl (World.news_of_block (cs := #[.int .i64 xm, .int .i64 xs, .bool true]) (t := 31) (fr := (0, 0)) (heap_alloc_new w2 _)) (by simp [Value.oneCell']) (by unfold maxLen; omega) (by omega) (by simp; omega) ?_; intro v3 w3 hown3 hg3 _; have HB3 := Lib.hid ((HB2.out.alloc hs2 (.cells #[.int .i64 xm, .int .i64 xs, .bool true] 31)).grown hg3 (Nat.le_trans hs2 (size_alloc _ _)) (fun i hi => (OW.out.lt i hi).1)); have hs3 := HB3.out.size)
            obtain ⟨q3, d3, rfl⟩ := own_slice hown3
            have OW3 := Lib.hid hown3
            clear hown3 hg3
            go_wp2
            go_roundw
            case rel => exact ⟨k + 1, f + 1, (out ++ [⟨xm, xs, tenOf true⟩], true, false), by omega, by omega, by go_num, ⟨_, _, rfl⟩, rfl, rfl, Lib.hid (by have := HF.out; simp only at this ⊢; simp [this]), Lib.hid (SV2.out.symm.trans SN.out), Lib.hid (by
              have := OW3.out
              simpa [HM.out, HMX.out, mcells_of] using this), HB3⟩
            case measure => simp [intOf]; omega
        · have hne : ¬ (xm = m ∧ xs = s) := fun h => h2 h.2
          subst h1
          have d2 : (xs == s) = false := by simp [h2]
          clear h2
          by_cases hd : dn = true
          · subst hd
            have SV2 := Lib.hid (show step r (out, true, ch) x = (out ++ [x], true, ch) by rw [SV.out, if_neg hne, if_neg (fun h => by cases h.1)])
            generalize ltB ⟨xm, s, 0⟩ ⟨xm, xs, 0⟩ = bf at *
            go_wp2_with fail
            refine (C.out _ _ _).mono ?_
            rintro e w2 ⟨rfl, hb2⟩
            have HB2 := Lib.hid (show Below w1.heap.size w1 w2 from (HB.out.alloc hsz _).trans (hb2.mono (Nat.le_trans hsz (by simp))))
            have hs2 := HB2.out.size
            have XL := Lib.hid ((Lies.new wr 31 #[.int .i64 xm, .int .i64 xs, .bool ox]).below hb2 (by simp))
            have OW := Lib.hid (own_turn (own_turn HO.out (Turn.of_below (S := fun _ => False) (alloc_below wr _)) (fun _ _ hf => hf)) (Turn.of_below (S := fun _ => False) hb2) (fun _ _ hf => hf))
            have ML := Lib.hid (X1.out.below HB2.out lx)
            have z0 : w2.cell? ⟨wr.heap.size, 0, none⟩ = some (.int .i64 xm) := XL.out.cell 0
            have z1 : w2.cell? ⟨wr.heap.size, 1, none⟩ = some (.int .i64 xs) := XL.out.cell 1
            have z2 : w2.cell? ⟨wr.heap.size, 2, none⟩ = some (.bool ox) := XL.out.cell 2
            have n0 : w2.cell? ⟨w.heap.size, 0, none⟩ = some (.int .i64 xm) := ML.out.cell 0
            have n1 : w2.cell? ⟨w.heap.size, 1, none⟩ = some (.int .i64 s) := ML.out.cell 1
            have n2 : w2.cell? ⟨w.heap.size, 2, none⟩ = some (.bool om) := ML.out.cell 2
            clear hb2 m0 m1 m2 e0 e1 e2 F
            go_wp2_with (at_builtin; refine wpList_append_own _ rfl _ _ 22 rfl w1.heap.size 31 i0 _ 3 24 Try.underlying22 hi hz0 hz1 hz2 rfl (by decide) _ _ _ rfl (OW.out.alloc _) ⟨w2.heap.size, 0, none⟩ 1 1 [.int .i64 xm, .int .i64 xs, .bool ox] rfl rfl (World.news_of_block (cs := #[.int .i64 xm, .int .i64 xs, .bool ox]) (t := 31) (fr := (0, 0)) (heap_alloc_new w2 _)) (by simp [Value.oneCell']) (by unfold maxLen; omega) (by omega) (by simp; omega) ?_; intro v3 w3 hown3 hg3 _; have HB3 := Lib.hid ((HB2.out.alloc hs2 (.cells #[.int .i64 xm, .int .i64 xs, .bool ox] 31)).grown hg3 (Nat.le_trans hs2 (size_alloc _ _)) (fun i hi => (OW.out.lt i hi).1)); have hs3 := HB3.out.size)
            obtain ⟨q3, d3, rfl⟩ := own_slice hown3
            have OW3 := Lib.hid hown3
            clear hown3 hg3
            go_wp2
            go_roundw
            case rel => exact ⟨k + 1, f + 1, (out ++ [x], true, ch), by omega, by omega, by go_num, ⟨_, _, rfl⟩, rfl, rfl, Lib.hid (by have := HF.out; simp only at this ⊢; simp [this]), Lib.hid (SV2.out.symm.trans SN.out), Lib.hid (by
              have := OW3.out
              simpa [HM.out, HMX.out, mcells_of] using this), HB3⟩
            case measure => simp [intOf]; omega
          · obtain rfl : dn = false := by simpa using hd
            cases hbf : ltB ⟨xm, s, 0⟩ ⟨xm, xs, 0⟩
            · have SV2 := Lib.hid (show step r (out, false, ch) x = (out ++ [x], false, ch) by rw [SV.out, if_neg hne, if_neg (fun h => by rw [hbf] at h; cases h.2)])
              rw [hbf] at C
              go_wp2_with fail
              refine (C.out _ _ _).mono ?_
              rintro e w2 ⟨rfl, hb2⟩
              have HB2 := Lib.hid (show Below w1.heap.size w1 w2 from (HB.out.alloc hsz _).trans (hb2.mono (Nat.le_trans hsz (by simp))))
              have hs2 := HB2.out.size
              have XL := Lib.hid ((Lies.new wr 31 #[.int .i64 xm, .int .i64 xs, .bool ox]).below hb2 (by simp))
              have OW := Lib.hid (own_turn (own_turn HO.out (Turn.of_below (S := fun _ => False) (alloc_below wr _)) (fun _ _ hf => hf)) (Turn.of_below (S := fun _ => False) hb2) (fun _ _ hf => hf))
              have ML := Lib.hid (X1.out.below HB2.out lx)
              have z0 : w2.cell? ⟨wr.heap.size, 0, none⟩ = some (.int .i64 xm) := XL.out.cell 0
              have z1 : w2.cell? ⟨wr.heap.size, 1, none⟩ = some (.int .i64 xs) := XL.out.cell 1
              have z2 : w2.cell? ⟨wr.heap.size, 2, none⟩ = some (.bool ox) := XL.out.cell 2
              have n0 : w2.cell? ⟨w.heap.size, 0, none⟩ = some (.int .i64 xm) := ML.out.cell 0
              have n1 : w2.cell? ⟨w.heap.size, 1, none⟩ = some (.int .i64 s) := ML.out.cell 1
              have n2 : w2.cell? ⟨w.heap.size, 2, none⟩ = some (.bool om) := ML.out.cell 2
              clear hb2 m0 m1 m2 e0 e1 e2 F
              go_wp2_with (at_builtin; refine wpList_append_own _ rfl _ _ 22 rfl w1.heap.size 31 i0 _ 3 24 Try.underlying22 hi hz0 hz1 hz2 rfl (by decide) _ _ _ rfl (OW.out.alloc _) ⟨w2.heap.size, 0, none⟩ 1 1 [.int .i64 xm, .int .i64 xs, .bool ox] rfl rfl (World.news_of_block (cs := #[.int .i64 xm, .int .i64 xs, .bool ox]) (t := 31) (fr := (0, 0)) (heap_alloc_new w2 _)) (by simp [Value.oneCell']) (by unfold maxLen; omega) (by omega) (by simp; omega) ?_; intro v3 w3 hown3 hg3 _; have HB3 := Lib.hid ((HB2.out.alloc hs2 (.cells #[.int .i64 xm, .int .i64 xs, .bool ox] 31)).grown hg3 (Nat.le_trans hs2 (size_alloc _ _)) (fun i hi => (OW.out.lt i hi).1)); have hs3 := HB3.out.size)
              obtain ⟨q3, d3, rfl⟩ := own_slice hown3
              have OW3 := Lib.hid hown3
              clear hown3 hg3
              go_wp2
              go_roundw
              case rel => exact ⟨k + 1, f + 1, (out ++ [x], false, ch), by omega, by omega, by go_num, ⟨_, _, rfl⟩, rfl, rfl, Lib.hid (by have := HF.out; simp only at this ⊢; simp [this]), Lib.hid (SV2.out.symm.trans SN.out), Lib.hid (by
                have := OW3.out
                simpa [HM.out, HMX.out, mcells_of] using this), HB3⟩
              case measure => simp [intOf]; omega
            · have SV2 := Lib.hid (show step r (out, false, ch) x = (out ++ [r] ++ [x], true, ch) by rw [SV.out, if_neg hne, if_pos ⟨rfl, hbf⟩])
              rw [hbf] at C
              go_wp2_with fail
              refine (C.out _ _ _).mono ?_
              rintro e w2 ⟨rfl, hb2⟩
              have HB2 := Lib.hid (show Below w1.heap.size w1 w2 from (HB.out.alloc hsz _).trans (hb2.mono (Nat.le_trans hsz (by simp))))
              have hs2 := HB2.out.size
              have XL := Lib.hid ((Lies.new wr 31 #[.int .i64 xm, .int .i64 xs, .bool ox]).below hb2 (by simp))
              have OW := Lib.hid (own_turn (own_turn HO.out (Turn.of_below (S := fun _ => False) (alloc_below wr _)) (fun _ _ hf => hf)) (Turn.of_below (S := fun _ => False) hb2) (fun _ _ hf => hf))
              have ML := Lib.hid (X1.out.below HB2.out lx)
              have z0 : w2.cell? ⟨wr.heap.size, 0, none⟩ = some (.int .i64 xm) := XL.out.cell 0
              have z1 : w2.cell? ⟨wr.heap.size, 1, none⟩ = some (.int .i64 xs) := XL.out.cell 1
              have z2 : w2.cell? ⟨wr.heap.size, 2, none⟩ = some (.bool ox) := XL.out.cell 2
              have n0 : w2.cell? ⟨w.heap.size, 0, none⟩ = some (.int .i64 xm) := ML.out.cell 0
              have n1 : w2.cell? ⟨w.heap.size, 1, none⟩ = some (.int .i64 s) := ML.out.cell 1
              have n2 : w2.cell? ⟨w.heap.size, 2, none⟩ = some (.bool om) := ML.out.cell 2
              clear hb2 m0 m1 m2 e0 e1 e2 F
              go_wp2_with (first | (at_builtin; refine wpList_append_own _ rfl _ _ 22 rfl w1.heap.size 31 i0 _ 3 24 Try.underlying22 hi hz0 hz1 hz2 rfl (by decide) _ _ _ rfl (OW.out.alloc _) ⟨w2.heap.size, 0, none⟩ 1 1 [.int .i64 xm, .int .i64 s, .bool om] rfl rfl (World.news_of_block (cs := #[.int .i64 xm, .int .i64 s, .bool om]) (t := 31) (fr := (0, 0)) (heap_alloc_new w2 _)) (by simp [Value.oneCell']) (by unfold maxLen; omega) (by omega) (by simp; omega) ?_; intro v3 w3 hown3 hg3 _; have HB3 := Lib.hid ((HB2.out.alloc hs2 (.cells #[.int .i64 xm, .int .i64 s, .bool om] 31)).grown hg3 (Nat.le_trans hs2 (size_alloc _ _)) (fun i hi => (OW.out.lt i hi).1)); have hs3 := HB3.out.size; have XL3 := Lib.hid ((XL.out.alloc (.cells #[.int .i64 xm, .int .i64 s, .bool om] 31)).grown hg3 (fun e => by have := own_lt HO.out e.symm; omega)); have y0 : w3.cell? ⟨wr.heap.size, 0, none⟩ = some (.int .i64 xm) := XL3.out.cell 0; have y1 : w3.cell? ⟨wr.heap.size, 1, none⟩ = some (.int .i64 xs) := XL3.out.cell 1; have y2 : w3.cell? ⟨wr.heap.size, 2, none⟩ = some (.bool ox) := XL3.out.cell 2) | (at_builtin; refine wpList_append_own _ rfl _ _ 22 rfl w1.heap.size 31 i0 _ 3 24 Try.underlying22 hi hz0 hz1 hz2 rfl (by decide) _ _ _ rfl (hown3.alloc _) ⟨w3.heap.size, 0, none⟩ 1 1 [.int .i64 xm, .int .i64 xs, .bool ox] rfl rfl (World.news_of_block (cs := #[.int .i64 xm, .int .i64 xs, .bool ox]) (t := 31) (fr := (0, 0)) (heap_alloc_new w3 _)) (by simp [Value.oneCell']) (by unfold maxLen; omega) (by omega) (by simp; omega) ?_; intro v4 w4 hown4 hg4 _; have HB4 := Lib.hid ((HB3.out.alloc hs3 (.cells #[.int .i64 xm, .int .i64 xs, .bool ox] 31)).grown hg4 (Nat.le_trans hs3 (size_alloc _ _)) (fun i hi => (hown3.lt i hi).1)); have hs4 := HB4.out.size))
              obtain ⟨q4, d4, rfl⟩ := own_slice hown4
              have OW4 := Lib.hid hown4
              clear hown3 hg3 hown4 hg4
              go_wp2
              go_roundw
              case rel => exact ⟨k + 1, f + 2, (out ++ [r] ++ [x], true, ch), by omega, by omega, by go_num, ⟨_, _, rfl⟩, rfl, rfl, Lib.hid (by have := HF.out; simp only at this ⊢; simp [this]), Lib.hid (SV2.out.symm.trans SN.out), Lib.hid (by
                have := OW4.out
                simpa [HM.out, HMX.out, mcells_of] using this), HB4⟩
              case measure => simp [intOf]; omega
      · have hne : ¬ (xm = m ∧ xs = s) := fun h => h1 h.1
        have d1 : (xm == m) = false := by simp [h1]
        clear h1
        by_cases hd : dn = true
        · subst hd
          have SV2 := Lib.hid (show step r (out, true, ch) x = (out ++ [x], true, ch) by rw [SV.out, if_neg hne, if_neg (fun h => by cases h.1)])
          generalize ltB ⟨m, s, 0⟩ ⟨xm, xs, 0⟩ = bf at *
          go_wp2_with fail
          refine (C.out _ _ _).mono ?_
          rintro e w2 ⟨rfl, hb2⟩
          have HB2 := Lib.hid (show Below w1.heap.size w1 w2 from (HB.out.alloc hsz _).trans (hb2.mono (Nat.le_trans hsz (by simp))))
          have hs2 := HB2.out.size
          have XL := Lib.hid ((Lies.new wr 31 #[.int .i64 xm, .int .i64 xs, .bool ox]).below hb2 (by simp))
          have OW := Lib.hid (own_turn (own_turn HO.out (Turn.of_below (S := fun _ => False) (alloc_below wr _)) (fun _ _ hf => hf)) (Turn.of_below (S := fun _ => False) hb2) (fun _ _ hf => hf))
          have ML := Lib.hid (X1.out.below HB2.out lx)
          have z0 : w2.cell? ⟨wr.heap.size, 0, none⟩ = some (.int .i64 xm) := XL.out.cell 0
          have z1 : w2.cell? ⟨wr.heap.size, 1, none⟩ = some (.int .i64 xs) := XL.out.cell 1
          have z2 : w2.cell? ⟨wr.heap.size, 2, none⟩ = some (.bool ox) := XL.out.cell 2
          have n0 : w2.cell? ⟨w.heap.size, 0, none⟩ = some (.int .i64 m) := ML.out.cell 0
          have n1 : w2.cell? ⟨w.heap.size, 1, none⟩ = some (.int .i64 s) := ML.out.cell 1
          have n2 : w2.cell? ⟨w.heap.size, 2, none⟩ = some (.bool om) := ML.out.cell 2
          clear hb2 m0 m1 m2 e0 e1 e2 F
          go_wp2_with (at_builtin; refine wpList_append_own _ rfl _ _ 22 rfl w1.heap.size 31 i0 _ 3 24 Try.underlying22 hi hz0 hz1 hz2 rfl (by decide) _ _ _ rfl (OW.out.alloc _) ⟨w2.heap.size, 0, none⟩ 1 1 [.int .i64 xm, .int .i64 xs, .bool ox] rfl rfl (World.news_of_block (cs := #[.int .i64 xm, .int .i64 xs, .bool ox]) (t := 31) (fr := (0, 0)) (heap_alloc_new w2 _)) (by simp [Value.oneCell']) (by unfold maxLen; omega) (by omega) (by simp; omega) ?_; intro v3 w3 hown3 hg3 _; have HB3 := Lib.hid ((HB2.out.alloc hs2 (.cells #[.int .i64 xm, .int .i64 xs, .bool ox] 31)).grown hg3 (Nat.le_trans hs2 (size_alloc _ _)) (fun i hi => (OW.out.lt i hi).1)); have hs3 := HB3.out.size)
          obtain ⟨q3, d3, rfl⟩ := own_slice hown3
          have OW3 := Lib.hid hown3
          clear hown3 hg3
          go_wp2
          go_roundw
          case rel => exact ⟨k + 1, f + 1, (out ++ [x], true, ch), by omega, by omega, by go_num, ⟨_, _, rfl⟩, rfl, rfl, Lib.hid (by have := HF.out; simp only at this ⊢; simp [this]), Lib.hid (SV2.out.symm.trans SN.out), Lib.hid (by
            have := OW3.out
            simpa [HM.out, HMX.out, mcells_of] using this), HB3⟩
          case measure => simp [intOf]; omega
        · obtain rfl : dn = false := by simpa using hd
          cases hbf : ltB ⟨m, s, 0⟩ ⟨xm, xs, 0⟩
          · have SV2 := Lib.hid (show step r (out, false, ch) x = (out ++ [x], false, ch) by rw [SV.out, if_neg hne, if_neg (fun h => by rw [hbf] at h; cases h.2)])
            rw [hbf] at C
            go_wp2_with fail
            refine (C.out _ _ _).mono ?_
            rintro e w2 ⟨rfl, hb2⟩
            have HB2 := Lib.hid (show Below w1.heap.size w1 w2 from (HB.out.alloc hsz _).trans (hb2.mono (Nat.le_trans hsz (by simp))))
            have hs2 := HB2.out.size
            have XL := Lib.hid ((Lies.new wr 31 #[.int .i64 xm, .int .i64 xs, .bool ox]).below hb2 (by simp))
            have OW := Lib.hid (own_turn (own_turn HO.out (Turn.of_below (S := fun _ => False) (alloc_below wr _)) (fun _ _ hf => hf)) (Turn.of_below (S := fun _ => False) hb2) (fun _ _ hf => hf))
            have ML := Lib.hid (X1.out.below HB2.out lx)
            have z0 : w2.cell? ⟨wr.heap.size, 0, none⟩ = some (.int .i64 xm) := XL.out.cell 0
            have z1 : w2.cell? ⟨wr.heap.size, 1, none⟩ = some (.int .i64 xs) := XL.out.cell 1
            have z2 : w2.cell? ⟨wr.heap.size, 2, none⟩ = some (.bool ox) := XL.out.cell 2
            have n0 : w2.cell? ⟨w.heap.size, 0, none⟩ = some (.int .i64 m) := ML.out.cell 0
            have n1 : w2.cell? ⟨w.heap.size, 1, none⟩ = some (.int .i64 s) := ML.out.cell 1
            have n2 : w2.cell? ⟨w.heap.size, 2, none⟩ = some (.bool om) := ML.out.cell 2
            clear hb2 m0 m1 m2 e0 e1 e2 F
            go_wp2_with (at_builtin; refine wpList_append_own _ rfl _ _ 22 rfl w1.heap.size 31 i0 _ 3 24 Try.underlying22 hi hz0 hz1 hz2 rfl (by decide) _ _ _ rfl (OW.out.alloc _) ⟨w2.heap.size, 0, none⟩ 1 1 [.int .i64 xm, .int .i64 xs, .bool ox] rfl rfl (World.news_of_block (cs := #[.int .i64 xm, .int .i64 xs, .bool ox]) (t := 31) (fr := (0, 0)) (heap_alloc_new w2 _)) (by simp [Value.oneCell']) (by unfold maxLen; omega) (by omega) (by simp; omega) ?_; intro v3 w3 hown3 hg3 _; have HB3 := Lib.hid ((HB2.out.alloc hs2 (.cells #[.int .i64 xm, .int .i64 xs, .bool ox] 31)).grown hg3 (Nat.le_trans hs2 (size_alloc _ _)) (fun i hi => (OW.out.lt i hi).1)); have hs3 := HB3.out.size)
            obtain ⟨q3, d3, rfl⟩ := own_slice hown3
            have OW3 := Lib.hid hown3
            clear hown3 hg3
            go_wp2
            go_roundw
            case rel => exact ⟨k + 1, f + 1, (out ++ [x], false, ch), by omega, by omega, by go_num, ⟨_, _, rfl⟩, rfl, rfl, Lib.hid (by have := HF.out; simp only at this ⊢; simp [this]), Lib.hid (SV2.out.symm.trans SN.out), Lib.hid (by
              have := OW3.out
              simpa [HM.out, HMX.out, mcells_of] using this), HB3⟩
            case measure => simp [intOf]; omega
          · have SV2 := Lib.hid (show step r (out, false, ch) x = (out ++ [r] ++ [x], true, ch) by rw [SV.out, if_neg hne, if_pos ⟨rfl, hbf⟩])
            rw [hbf] at C
            go_wp2_with fail
            refine (C.out _ _ _).mono ?_
            rintro e w2 ⟨rfl, hb2⟩
            have HB2 := Lib.hid (show Below w1.heap.size w1 w2 from (HB.out.alloc hsz _).trans (hb2.mono (Nat.le_trans hsz (by simp))))
            have hs2 := HB2.out.size
            have XL := Lib.hid ((Lies.new wr 31 #[.int .i64 xm, .int .i64 xs, .bool ox]).below hb2 (by simp))
            have OW := Lib.hid (own_turn (own_turn HO.out (Turn.of_below (S := fun _ => False) (alloc_below wr _)) (fun _ _ hf => hf)) (Turn.of_below (S := fun _ => False) hb2) (fun _ _ hf => hf))
            have ML := Lib.hid (X1.out.below HB2.out lx)
            have z0 : w2.cell? ⟨wr.heap.size, 0, none⟩ = some (.int .i64 xm) := XL.out.cell 0
            have z1 : w2.cell? ⟨wr.heap.size, 1, none⟩ = some (.int .i64 xs) := XL.out.cell 1
            have z2 : w2.cell? ⟨wr.heap.size, 2, none⟩ = some (.bool ox) := XL.out.cell 2
            have n0 : w2.cell? ⟨w.heap.size, 0, none⟩ = some (.int .i64 m) := ML.out.cell 0
            have n1 : w2.cell? ⟨w.heap.size, 1, none⟩ = some (.int .i64 s) := ML.out.cell 1
            have n2 : w2.cell? ⟨w.heap.size, 2, none⟩ = some (.bool om) := ML.out.cell 2
            clear hb2 m0 m1 m2 e0 e1 e2 F
            go_wp2_with (first | (at_builtin; refine wpList_append_own _ rfl _ _ 22 rfl w1.heap.size 31 i0 _ 3 24 Try.underlying22 hi hz0 hz1 hz2 rfl (by decide) _ _ _ rfl (OW.out.alloc _) ⟨w2.heap.size, 0, none⟩ 1 1 [.int .i64 m, .int .i64 s, .bool om] rfl rfl (World.news_of_block (cs := #[.int .i64 m, .int .i64 s, .bool om]) (t := 31) (fr := (0, 0)) (heap_alloc_new w2 _)) (by simp [Value.oneCell']) (by unfold maxLen; omega) (by omega) (by simp; omega) ?_; intro v3 w3 hown3 hg3 _; have HB3 := Lib.hid ((HB2.out.alloc hs2 (.cells #[.int .i64 m, .int .i64 s, .bool om] 31)).grown hg3 (Nat.le_trans hs2 (size_alloc _ _)) (fun i hi => (OW.out.lt i hi).1)); have hs3 := HB3.out.size; have XL3 := Lib.hid ((XL.out.alloc (.cells #[.int .i64 m, .int .i64 s, .bool om] 31)).grown hg3 (fun e => by have := own_lt HO.out e.symm; omega)); have y0 : w3.cell? ⟨wr.heap.size, 0, none⟩ = some (.int .i64 xm) := XL3.out.cell 0; have y1 : w3.cell? ⟨wr.heap.size, 1, none⟩ = some (.int .i64 xs) := XL3.out.cell 1; have y2 : w3.cell? ⟨wr.heap.size, 2, none⟩ = some (.bool ox) := XL3.out.cell 2) | (at_builtin; refine wpList_append_own _ rfl _ _ 22 rfl w1.heap.size 31 i0 _ 3 24 Try.underlying22 hi hz0 hz1 hz2 rfl (by decide) _ _ _ rfl (hown3.alloc _) ⟨w3.heap.size, 0, none⟩ 1 1 [.int .i64 xm, .int .i64 xs, .bool ox] rfl rfl (World.news_of_block (cs := #[.int .i64 xm, .int .i64 xs, .bool ox]) (t := 31) (fr := (0, 0)) (heap_alloc_new w3 _)) (by simp [Value.oneCell']) (by unfold maxLen; omega) (by omega) (by simp; omega) ?_; intro v4 w4 hown4 hg4 _; have HB4 := Lib.hid ((HB3.out.alloc hs3 (.cells #[.int .i64 xm, .int .i64 xs, .bool ox] 31)).grown hg4 (Nat.le_trans hs3 (size_alloc _ _)) (fun i hi => (hown3.lt i hi).1)); have hs4 := HB4.out.size))
            obtain ⟨q4, d4, rfl⟩ := own_slice hown4
            have OW4 := Lib.hid hown4
            clear hown3 hg3 hown4 hg4
            go_wp2
            go_roundw
            case rel => exact ⟨k + 1, f + 2, (out ++ [r] ++ [x], true, ch), by omega, by omega, by go_num, ⟨_, _, rfl⟩, rfl, rfl, Lib.hid (by have := HF.out; simp only at this ⊢; simp [this]), Lib.hid (SV2.out.symm.trans SN.out), Lib.hid (by
              have := OW4.out
              simpa [HM.out, HMX.out, mcells_of] using this), HB4⟩
            case measure => simp [intOf]; omega
    · obtain rfl : k = n := by omega
      have HE := Lib.hid (show (out, dn, ch) = l.foldl (step r) start by rw [HS.out, List.take_of_length_le (by rw [H1.out.1]; exact Nat.le_refl _)])
      have hb1 := B1.out.size
      by_cases hd : dn = true
      · subst hd
        have PV := Lib.hid (show putF l r = (out, ch) by rw [PF.out, ← HE.out] <;> rfl)
        go_wp2
        go_ret3
        refine ⟨.slice q f d, ?_, ?_, B1.out.trans (HB.out.mono hb1)⟩
        · rw [PV.out]
          rfl
        · rw [PV.out]
          simp only
          rw [HF.out]
          exact own_base HO.out hb1
      · obtain rfl : dn = false := by simpa using hd
        have PV := Lib.hid (show putF l r = (out ++ [r], ch) by rw [PF.out, ← HE.out] <;> rfl)
        go_wp2_with (at_builtin; refine wpList_append_own _ rfl _ _ 22 rfl w1.heap.size 31 i0 _ 3 24 Try.underlying22 hi hz0 hz1 hz2 rfl (by decide) _ _ _ rfl (HO.out.alloc _) ⟨wr.heap.size, 0, none⟩ 1 1 [.int .i64 m, .int .i64 s, .bool om] rfl rfl (World.news_of_block (cs := #[.int .i64 m, .int .i64 s, .bool om]) (t := 31) (fr := (0, 0)) (heap_alloc_new wr _)) (by simp [Value.oneCell']) (by unfold maxLen; omega) (by omega) (by simp; omega) ?_; intro v3 w3 hown3 hg3 _; have HB3 := Lib.hid ((HB.out.alloc hsz (.cells #[.int .i64 m, .int .i64 s, .bool om] 31)).grown hg3 (Nat.le_trans hsz (size_alloc _ _)) (fun i hi => (HO.out.lt i hi).1)))
        obtain ⟨q3, d3, rfl⟩ := own_slice hown3
        have OW3 := Lib.hid hown3
        clear hown3 hg3
        go_wp2
        go_ret3
        refine ⟨.slice q3 (f + 1) d3, ?_, ?_, B1.out.trans (HB3.out.mono hb1)⟩
        · rw [PV.out]
          rfl
        · rw [PV.out]
          simp only
          rw [List.length_append, HF.out, ← flat_snoc, HM.out]
          exact own_base OW3.out hb1
end Dr
end Go.Proofs.Ytfdakkghikimcaa
