/- Walks over package excess: an index's memory; how many parts begin ahead of a minute. Conditions: parts that reckon what they say. -/
import Derived.Test.YtfmnbmjfkplieaaExP1
import Derived.Test.YtfmnbmjfkplieaaSeP4
namespace Go.Proofs.Ytfmnbmjfkplieaa
open Go.RowKit Se

namespace Ex
/-- A part's cells. -/
def pcells (x : Pt) : List Value := [.int .i64 x.frm, .int .i64 x.bef, .int .i64 x.exc]
theorem pcells_len (x : Pt) : (pcells x).length = 3 := rfl
def pval (x : Pt) : Value := .agg #[.int .i64 x.frm, .int .i64 x.bef, .int .i64 x.exc]
theorem part_any (x : Pt) (m : Int) (w : World) : Calls Try.prog 58 #[pval x, .int .i64 m] w fun e w' => e = .returned (.int .i64 (cmpI x.frm m)) ∧ Below w.heap.size w w' := by
  have C := Lib.hid (fun W => cmp_any x.frm m W)
  have B0 := Lib.hid (alloc_below w (.cells #[.int .i64 x.frm, .int .i64 x.bef, .int .i64 x.exc] 76))
  unfold pval
  generalize cmpI x.frm m = z at *
  go_enter Try.func58, Try.ntmps58
  go_wp2_with fail
  refine (C.out _).mono ?_
  rintro e w1 ⟨rfl, rfl⟩
  go_wp2
  go_ret
  exact ⟨rfl, B0.out⟩
theorem cmp_lt (x y : Int) : cmpI x y < 0 ↔ x < y := by
  unfold cmpI
  split
  · omega
  · split <;> omega
/-- What is found of parts ahead of a minute. -/
def Found (P : List Pt) (m : Int) (w : World) (e : Ending) (w' : World) : Prop := ∃ (k : Nat) (b : Bool), e = .returned (.tuple #[.int .i64 (k : Int), .bool b]) ∧ Ahd P m k ∧ Below w.heap.size w w'
set_option maxRecDepth 100000 in
set_option maxHeartbeats 2000000 in
theorem search_any (p : Option Addr) (n c : Nat) (P : List Pt) (m : Int) (w : World) (hA : Rw 3 pcells w p n P) (hR : Rise P) (hn : n ≤ 1000000000) (hc : n ≤ c) :
    Calls Try.prog 57 #[.slice p n c, .int .i64 m, .func (.func 58) #[] #[]] w (Found P m w) := by
  have C := Lib.hid (fun x W => part_any x m W)
  have HA := Lib.hid hA
  have HR := Lib.hid hR
  have HL := Lib.hid hA.1
  have hn' : (n : Int) ≤ 1000000000 := by omega
  have EG := enter_of Try.func58 (by kernel_rfl) (by kernel_rfl)
  clear hA hR
  go_enter Try.func57, Try.ntmps57
  go_wp2
  go_loopw [9, 10] (fun vi vj wr => ∃ (i j : Nat), i ≤ j ∧ j ≤ n ∧ vi = .int .i64 i ∧ vj = .int .i64 j ∧ Hid (∀ k x, P[k]? = some x → (k < i → x.frm < m) ∧ (j ≤ k → m ≤ x.frm)) ∧ Hid (Below w.heap.size w wr)) (fun vi vj _ => ((intOf vj) - (intOf vi)).toNat)
  case atStart => exact ⟨0, n, Nat.zero_le _, Nat.le_refl _, rfl, rfl, Lib.hid (fun k x hx => ⟨fun h => by omega, fun h => by have := (List.getElem?_eq_some_iff.1 hx).1; have := HL.out; omega⟩), Lib.hid (Below.refl _ _)⟩
  case round =>
    obtain ⟨i, j, hij, hjn, rfl, rfl, HI, HB⟩ := hrel
    have hjn' : (j : Int) ≤ (n : Int) := by omega
    by_cases hlt : i < j
    · have hlt' : (i : Int) < (j : Int) := by omega
      obtain ⟨h, hh, hh1, hh2⟩ : ∃ h : Nat, ((i : Int) + (j : Int)) / 2 = (h : Int) ∧ i ≤ h ∧ h < j := ⟨(i + j) / 2, by omega, by omega, by omega⟩
      have hhn : (h : Int) < (n : Int) := by omega
      obtain ⟨x, hx⟩ : ∃ x, P[h]? = some x := ⟨_, List.getElem?_eq_getElem (by rw [HL.out]; omega)⟩
      obtain ⟨b, o, rfl, hcl⟩ := (HA.out.keep pcells_len HB.out).2 (by omega)
      have e0 : wr.cell? ⟨b, o + h * 3, none⟩ = some (.int .i64 x.frm) := hcl h x hx 0 (by decide)
      have e1 : wr.cell? ⟨b, o + h * 3 + 1, none⟩ = some (.int .i64 x.bef) := hcl h x hx 1 (by decide)
      have e2 : wr.cell? ⟨b, o + h * 3 + 2, none⟩ = some (.int .i64 x.exc) := hcl h x hx 2 (by decide)
      have CX := Lib.hid (C.out x wr)
      have HX := Lib.hid hx
      have hhc : (h : Int) < (c : Int) := by omega
      unfold pval at CX
      clear hcl hx
      go_wp2_with fail
      refine CX.out.mono ?_
      rintro e w2 ⟨rfl, hb⟩
      have HB2 := Lib.hid (HB.out.trans (hb.mono HB.out.size))
      clear hb HB e0 e1 e2 CX
      have CL := cmp_lt x.frm m
      by_cases hz : x.frm < m
      · have t0 : decide (cmpI x.frm m < 0) = true := by simpa using CL.2 hz
        have HI2 := Lib.hid (show ∀ k y, P[k]? = some y → (k < h + 1 → y.frm < m) ∧ (j ≤ k → m ≤ y.frm) from fun k y hy => ⟨fun hk => by
          by_cases hkh : k < h
          · have := HR.out k h y x hy HX.out hkh
            omega
          · obtain rfl : k = h := by omega
            rw [HX.out] at hy
            cases hy
            exact hz, (HI.out k y hy).2⟩)
        clear HI CL
        generalize cmpI x.frm m = z at *
        go_wp2
        go_roundw
        case rel => exact ⟨h + 1, j, by omega, hjn, by go_num, rfl, HI2, HB2⟩
        case measure => simp [intOf]; omega
      · have t0 : decide (cmpI x.frm m < 0) = false := by simp; omega
        have HI2 := Lib.hid (show ∀ k y, P[k]? = some y → (k < i → y.frm < m) ∧ (h ≤ k → m ≤ y.frm) from fun k y hy => ⟨(HI.out k y hy).1, fun hk => by
          by_cases hkh : h < k
          · have := HR.out h k x y HX.out hy hkh
            omega
          · obtain rfl : k = h := by omega
            rw [HX.out] at hy
            cases hy
            omega⟩)
        clear HI CL
        generalize cmpI x.frm m = z at *
        go_wp2
        go_roundw
        case rel => exact ⟨i, h, by omega, by omega, rfl, rfl, HI2, HB2⟩
        case measure => simp [intOf]; omega
    · obtain rfl : i = j := by omega
      have AH := Lib.hid (show Ahd P m i from ⟨by have := HL.out; omega, fun k x hx => HI.out k x hx⟩)
      by_cases hin : i < n
      · have hin' : (i : Int) < (n : Int) := by omega
        obtain ⟨x, hx⟩ : ∃ x, P[i]? = some x := ⟨_, List.getElem?_eq_getElem (by rw [HL.out]; exact hin)⟩
        obtain ⟨b, o, rfl, hcl⟩ := (HA.out.keep pcells_len HB.out).2 (by omega)
        have e0 : wr.cell? ⟨b, o + i * 3, none⟩ = some (.int .i64 x.frm) := hcl i x hx 0 (by decide)
        have e1 : wr.cell? ⟨b, o + i * 3 + 1, none⟩ = some (.int .i64 x.bef) := hcl i x hx 1 (by decide)
        have e2 : wr.cell? ⟨b, o + i * 3 + 2, none⟩ = some (.int .i64 x.exc) := hcl i x hx 2 (by decide)
        have CX := Lib.hid (C.out x wr)
        have hic : (i : Int) < (c : Int) := by omega
        unfold pval at CX
        clear hcl hx HI
        go_wp2_with fail
        refine CX.out.mono ?_
        rintro e w2 ⟨rfl, hb⟩
        have HB2 := Lib.hid (HB.out.trans (hb.mono HB.out.size))
        clear hb HB e0 e1 e2 CX
        go_wp2
        go_ret2
        exact ⟨i, _, rfl, AH.out, HB2.out⟩
      · have hin' : ¬ (i : Int) < (n : Int) := by omega
        clear HI
        go_wp2
        go_ret2
        exact ⟨i, _, rfl, AH.out, HB.out⟩
/-- An index at a block: its series, its limit, its parts, up to where they are known. -/
structure Idx (w : World) (B h h0 : Nat) (F0 : Nat → Prop) (v : Value) (P : List Pt) (kn wo ga li : Int) (S : List Rd) : Prop where
  low : B ≤ h
  box : Lies w h 56 #[.pointer (some ⟨h0, 0, none⟩), .int .i64 li, v, .int .i64 kn]
  ser : PSF w B h0 F0 wo ga S
  row : w.ownsRow B 76 3 v P.length (P.flatMap pcells)
  out : ¬ F0 h
  far : ∀ k, v.ownBlock = some k → k ≠ h ∧ ¬ F0 k
  rk : Rec (exm wo ga li S) P kn
/-- Its memory. -/
def Own3 (h : Nat) (F0 : Nat → Prop) (v : Value) (k : Nat) : Prop := k = h ∨ F0 k ∨ v.ownBlock = some k
theorem Idx.turn {w w' : World} {B h h0 : Nat} {F0 T : Nat → Prop} {v : Value} {P : List Pt} {kn wo ga li : Int} {S : List Rd} (hp : Idx w B h h0 F0 v P kn wo ga li S) (ht : Turn T w w') (hs : ∀ k, Own3 h F0 v k → ¬ T k) : Idx w' B h h0 F0 v P kn wo ga li S :=
  ⟨hp.low, hp.box.turn ht (hs _ (.inl rfl)), face.turn hp.ser ht (fun k hk => hs k (.inr (.inl hk))), own_turn hp.row ht (fun k hk => hs k (.inr (.inr hk))), hp.out, hp.far, hp.rk⟩
theorem Idx.keep {w w' : World} {B h h0 : Nat} {F0 : Nat → Prop} {v : Value} {P : List Pt} {kn wo ga li : Int} {S : List Rd} (hp : Idx w B h h0 F0 v P kn wo ga li S) (hb : Below w.heap.size w w') : Idx w' B h h0 F0 v P kn wo ga li S :=
  hp.turn (T := fun _ => False) (Turn.of_below hb) (fun _ _ hf => hf)
theorem Idx.foot {w : World} {B h h0 k : Nat} {F0 : Nat → Prop} {v : Value} {P : List Pt} {kn wo ga li : Int} {S : List Rd} (hp : Idx w B h h0 F0 v P kn wo ga li S) (hk : Own3 h F0 v k) : B ≤ k ∧ k < w.heap.size := by
  rcases hk with rfl | hk | hk
  · exact ⟨hp.low, hp.box.lt⟩
  · exact face.foot hp.ser hk
  · exact own_lt hp.row hk
theorem rec_len {f : Int → Int} {P : List Pt} {kn : Int} (h : Rec f P kn) : P.length ≤ 1048576 := by
  have key : ∀ (n : Nat) (x : Pt), P[n]? = some x → (n : Int) ≤ x.frm := by
    intro n
    induction n with
    | zero =>
      intro x hx
      exact (h.inn _ _ hx).1
    | succ n ih =>
      intro x hx
      have hlt := (List.getElem?_eq_some_iff.1 hx).1
      obtain ⟨y, hy⟩ : ∃ y, P[n]? = some y := ⟨_, List.getElem?_eq_getElem (by omega)⟩
      have h1 := ih y hy
      have h2 := h.rise n (n + 1) y x hy hx (by omega)
      omega
  by_cases h0 : P.length = 0
  · omega
  · obtain ⟨x, hx⟩ : ∃ x, P[P.length - 1]? = some x := ⟨_, List.getElem?_eq_getElem (by omega)⟩
    have h1 := key _ _ hx
    have h2 := h.inn _ _ hx
    have h3 := h.hi
    omega
/-- How many parts begin ahead of a minute. -/
def Ahead (P : List Pt) (m : Int) (w : World) (e : Ending) (w' : World) : Prop := ∃ k : Nat, e = .returned (.int .i64 (k : Int)) ∧ Ahd P m k ∧ Below w.heap.size w w'
theorem ahead_any (B h h0 : Nat) (F0 : Nat → Prop) (v : Value) (P : List Pt) (kn wo ga li : Int) (S : List Rd) (m : Int) (w : World) (hp : Idx w B h h0 F0 v P kn wo ga li S) :
    Calls Try.prog 44 #[.pointer (some ⟨h, 0, none⟩), .int .i64 m] w (Ahead P m w) := by
  obtain ⟨q, d, rfl, hd, hA⟩ := rw_own pcells_len hp.row
  have c2 : w.cell? ⟨h, 2, none⟩ = some (.slice q P.length d) := hp.box.cell 2
  have hl := rec_len hp.rk
  have C := Lib.hid (search_any q P.length d P m w hA hp.rk.rise (by omega) hd)
  clear hp hA
  go_enter Try.func44, Try.ntmps44
  go_wp2_with fail
  refine C.out.mono ?_
  rintro e w1 ⟨k, b, rfl, ha, hb⟩
  have A1 := Lib.hid ha
  have B1 := Lib.hid hb
  clear ha hb C
  go_wp2
  go_ret
  exact ⟨k, rfl, A1.out, B1.out⟩
end Ex
end Go.Proofs.Ytfmnbmjfkplieaa
