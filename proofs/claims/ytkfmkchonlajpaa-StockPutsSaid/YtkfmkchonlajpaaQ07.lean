/- StockPuts' walk: any lots come as they are, into a stock. Condition: the contracts of packages master and stock. Layer 12's laws over arguments that came in. Condition: the contracts of packages master and stock. Package stock's lots as a map holds them: a form of things, a list in the order of numbers. No condition but those written. Walks over package stays: may stays be, does the last one go on, may something be done now. Condition: the list reads as stays. Walks over package stays: does the last one go on, may something be done now, which one has a minute. Condition: the list reads as stays. Walks over package stays: which stay has a minute (a labelled loop), its zone. Condition: the list reads as stays. -/
import Derived.Test.YtkfmkchonlajpaaQ06
import Derived.Deep.RegionHeld3
import Derived.Test.YtkfmkchonlajpaaQ02
import Derived.Test.YtkfmkchonlajpaaQ03
import Derived.Deep.QuietTactic
import Derived.BigQuiet
import Derived.WalkMore
namespace Go.Proofs.Ytkfmkchonlajpaa
open Go.RowKit

namespace Lo
section
variable {M : Ms.Face}
set_option maxRecDepth 100000 in
set_option maxHeartbeats 4000000 in
theorem puts_long (I : Face M) (r : Option Addr) (na ca : Nat) (id : Int) (w : World) (h : 60 < na) (hna : na ≤ 9223372036854775807) :
    Calls Try.prog 3 #[.slice r na ca, .int .i64 id] w fun e w' => e = .returned (.bool true) ∧ Below w.heap.size w w' := by
  have d1 : (60 : Int) < (na : Int) := by omega
  have AL := Lib.hid (fun W => alive_any I W)
  clear h hna
  go_enter Try.func3, Try.ntmps3
  go_wp2_with fail
  refine (AL.out _).mono ?_
  rintro e w3 ⟨rfl, hb⟩
  go_wp2
  go_ret
  exact ⟨rfl, hb⟩
set_option maxRecDepth 100000 in
set_option maxHeartbeats 32000000 in
theorem puts_short (I : Face M) (r : Option Addr) (na ca : Nat) (A : List Lv) (id : Int) (w : World) (hna : na ≤ 60) (hac : na ≤ ca) (hA : Ll w r na A) (hid : I64 id) (hst : ∀ y ∈ A, y.n ≤ 9223372036854775807) :
    Calls Try.prog 3 #[.slice r na ca, .int .i64 id] w fun e w' => e = .returned (.bool true) ∧ Below w.heap.size w w' := by
  have AL := Lib.hid (fun W => alive_any I W)
  have HA := Lib.hid hA
  have HAn := Lib.hid hA.1.1
  have HI := Lib.hid hid
  have HST := Lib.hid hst
  have n3 : (na : Int) ≤ 60 := by omega
  have n4 : (na : Int) ≤ (ca : Int) := by omega
  clear hA hid hst
  go_enter Try.func3, Try.ntmps3
  go_wp2_with fail
  refine (I.new _).mono ?_
  rintro e w1 ⟨h, F, rfl, hd, hb⟩
  obtain ⟨w3, hw3⟩ : ∃ w3, w1.alloc (.cells #[.slice none 0 0, .int .i64 0] 28) = w3 := ⟨_, rfl⟩
  have P0 : Hid (Duo I w.heap.size w w3 h w1.heap.size ([], 0) ([], 0) 60 60) := Lib.hid (by rw [← hw3]; exact duo_start hd hb)
  generalize hg : w1.heap.size = g at P0
  clear hd hb
  go_wp2_with fail
  clear hw3 hg
  go_loopw [7] (fun i wr => ∃ (k : Nat) (s : Stk), k ≤ na ∧ i = .int .i64 k ∧ Hid (Duo I w.heap.size w wr h g s s (60 + k) (60 + k))) (fun i _ => na - (RowKit.intOf i).toNat)
  case atStart => exact ⟨0, ([], 0), Nat.zero_le _, rfl, P0⟩
  case round =>
    clear P0
    obtain ⟨k, s, hk, rfl, P0⟩ := hrel
    by_cases hlt : k < na
    · obtain ⟨b2, o, hp, hc⟩ := HA.out.1.2 (by omega)
      obtain ⟨x, hx⟩ : ∃ x, A[k]? = some x := ⟨_, List.getElem?_eq_getElem (by rw [HAn.out]; exact hlt)⟩
      subst hp
      have EC2 := Lib.hid (fun (W : World) (hW : Below w.heap.size w W) i (hi : i < 8) => show W.cell? ⟨b2, o + k * 8 + i, none⟩ = (lcells x)[i]? by
        obtain ⟨b3, o3, e3, hc3⟩ := (HA.out.1.keep lcells_len hW).2 (by omega)
        injection e3 with e3
        injection e3 with e4 e5
        subst e4 e5
        exact hc3 k x hx i hi)
      have SY := Lib.hid (HA.out.2 x (List.mem_of_getElem? hx))
      have SN := Lib.hid (HST.out x (List.mem_of_getElem? hx))
      have U0 := Lib.hid (duo_under P0.out)
      clear hc hx
      by_cases hl60 : x.n ≤ 60
      · have LT := Lib.hid (fun k hk => SY.out.lt (k := k) hk)
        have PT1 := Lib.hid (fun W (hp : Duo I w.heap.size w W h g s s (60 + k) (60 + k)) => duo_put1 hp (by omega) (SY.out.keep (duo_under hp)) LT.out hl60 (by omega))
        have PT2 := Lib.hid (fun W s1 (hp : Duo I w.heap.size w W h g s1 s (60 + k + 1) (60 + k)) => duo_put2 hp (by omega) (SY.out.keep (duo_under hp)) LT.out hl60 (by omega))
        generalize putS s x.x = R at PT1 PT2
        obtain ⟨er, s'⟩ := R
        simp only at PT1 PT2
        clear SY LT SN
        obtain ⟨⟨i1, i2, i3, i4, i5, i6, i7, St0⟩, p, n, d⟩ := x
        unfold lval at PT1 PT2
        simp only at PT1 PT2 hl60
        have hl6 : (n : Int) ≤ 60 := by omega
        clear hl60
        have xa0 : wr.cell? ⟨b2, o + k * 8, none⟩ = some (.int .i64 i1) := EC2.out wr U0.out 0 (by decide)
        have xa1 : wr.cell? ⟨b2, o + k * 8 + 1, none⟩ = some (.int .i64 i2) := EC2.out wr U0.out 1 (by decide)
        have xa2 : wr.cell? ⟨b2, o + k * 8 + 2, none⟩ = some (.int .i64 i3) := EC2.out wr U0.out 2 (by decide)
        have xa3 : wr.cell? ⟨b2, o + k * 8 + 3, none⟩ = some (.int .i64 i4) := EC2.out wr U0.out 3 (by decide)
        have xa4 : wr.cell? ⟨b2, o + k * 8 + 4, none⟩ = some (.int .i64 i5) := EC2.out wr U0.out 4 (by decide)
        have xa5 : wr.cell? ⟨b2, o + k * 8 + 5, none⟩ = some (.int .i64 i6) := EC2.out wr U0.out 5 (by decide)
        have xa6 : wr.cell? ⟨b2, o + k * 8 + 6, none⟩ = some (.int .i64 i7) := EC2.out wr U0.out 6 (by decide)
        have xa7 : wr.cell? ⟨b2, o + k * 8 + 7, none⟩ = some (.slice p n d) := EC2.out wr U0.out 7 (by decide)
        go_wp2_with fail
        clear xa0 xa1 xa2 xa3 xa4 xa5 xa6 xa7
        have P1 := Lib.hid (duo_keep P0.out ((Below.refl _ wr).drew))
        have U1 := Lib.hid (duo_under P1.out)
        clear P0 U0
        have za0 : wr.drew.cell? ⟨b2, o + k * 8, none⟩ = some (.int .i64 i1) := EC2.out wr.drew U1.out 0 (by decide)
        have za1 : wr.drew.cell? ⟨b2, o + k * 8 + 1, none⟩ = some (.int .i64 i2) := EC2.out wr.drew U1.out 1 (by decide)
        have za2 : wr.drew.cell? ⟨b2, o + k * 8 + 2, none⟩ = some (.int .i64 i3) := EC2.out wr.drew U1.out 2 (by decide)
        have za3 : wr.drew.cell? ⟨b2, o + k * 8 + 3, none⟩ = some (.int .i64 i4) := EC2.out wr.drew U1.out 3 (by decide)
        have za4 : wr.drew.cell? ⟨b2, o + k * 8 + 4, none⟩ = some (.int .i64 i5) := EC2.out wr.drew U1.out 4 (by decide)
        have za5 : wr.drew.cell? ⟨b2, o + k * 8 + 5, none⟩ = some (.int .i64 i6) := EC2.out wr.drew U1.out 5 (by decide)
        have za6 : wr.drew.cell? ⟨b2, o + k * 8 + 6, none⟩ = some (.int .i64 i7) := EC2.out wr.drew U1.out 6 (by decide)
        have za7 : wr.drew.cell? ⟨b2, o + k * 8 + 7, none⟩ = some (.slice p n d) := EC2.out wr.drew U1.out 7 (by decide)
        refine region_T 12 (fun w' => w'.cell? ⟨b2, o + k * 8, none⟩ = some (.int .i64 i1) ∧ w'.cell? ⟨b2, o + k * 8 + 1, none⟩ = some (.int .i64 i2) ∧ w'.cell? ⟨b2, o + k * 8 + 2, none⟩ = some (.int .i64 i3) ∧ w'.cell? ⟨b2, o + k * 8 + 3, none⟩ = some (.int .i64 i4) ∧ w'.cell? ⟨b2, o + k * 8 + 4, none⟩ = some (.int .i64 i5) ∧ w'.cell? ⟨b2, o + k * 8 + 5, none⟩ = some (.int .i64 i6) ∧ w'.cell? ⟨b2, o + k * 8 + 6, none⟩ = some (.int .i64 i7) ∧ w'.cell? ⟨b2, o + k * 8 + 7, none⟩ = some (.slice p n d)) (by kernel_rfl) ⟨za0, za1, za2, za3, za4, za5, za6, za7⟩ (fun hS => ?_)
        refine takeL (i := 0) (v := ?_) rfl (by kernel_rfl) (by kernel_rfl) (by kernel_rfl) (by kernel_rfl) (by kernel_rfl) (fun _ _ _ h => h) (Or.inl ⟨by rfl, ?_⟩) (by assumption) ?_
        rotate_left
        · (intro w' hSw; (try dsimp only at hSw); go_simp; with_reducible rfl)
        try simp only [Act.put, List.setIfInBounds_toArray, List.set_cons_zero, List.set_cons_succ]
        refine takeL (i := 1) (v := ?_) rfl (by kernel_rfl) (by kernel_rfl) (by kernel_rfl) (by kernel_rfl) (by kernel_rfl) (fun _ _ _ h => h) (Or.inl ⟨by rfl, ?_⟩) (by assumption) ?_
        rotate_left
        · (intro w' hSw; (try dsimp only at hSw); go_simp; with_reducible rfl)
        try simp only [Act.put, List.setIfInBounds_toArray, List.set_cons_zero, List.set_cons_succ]
        refine takeL (i := 2) (v := ?_) rfl (by kernel_rfl) (by kernel_rfl) (by kernel_rfl) (by kernel_rfl) (by kernel_rfl) (fun _ _ _ h => h) (Or.inl ⟨by rfl, ?_⟩) (by assumption) ?_
        rotate_left
        · (intro w' hSw; (try dsimp only at hSw); go_simp; with_reducible rfl)
        try simp only [Act.put, List.setIfInBounds_toArray, List.set_cons_zero, List.set_cons_succ]
        refine takeL (i := 3) (v := ?_) rfl (by kernel_rfl) (by kernel_rfl) (by kernel_rfl) (by kernel_rfl) (by kernel_rfl) (fun _ _ _ h => h) (Or.inl ⟨by rfl, ?_⟩) (by assumption) ?_
        rotate_left
        · (intro w' hSw; (try dsimp only at hSw); go_simp; with_reducible rfl)
        try simp only [Act.put, List.setIfInBounds_toArray, List.set_cons_zero, List.set_cons_succ]
        refine takeL (i := 4) (v := ?_) rfl (by kernel_rfl) (by kernel_rfl) (by kernel_rfl) (by kernel_rfl) (by kernel_rfl) (fun _ _ _ h => h) (Or.inl ⟨by rfl, ?_⟩) (by assumption) ?_
        rotate_left
        · (intro w' hSw; (try dsimp only at hSw); go_simp; with_reducible rfl)
        try simp only [Act.put, List.setIfInBounds_toArray, List.set_cons_zero, List.set_cons_succ]
        refine takeL (i := 6) (v := ?_) rfl (by kernel_rfl) (by kernel_rfl) (by kernel_rfl) (by kernel_rfl) (by kernel_rfl) (fun _ _ _ h => h) (Or.inl ⟨by rfl, ?_⟩) (by assumption) ?_
        rotate_left
        · (intro w' hSw; (try dsimp only at hSw); go_simp; with_reducible rfl)
        try simp only [Act.put, List.setIfInBounds_toArray, List.set_cons_zero, List.set_cons_succ]
        refine takeL (i := 7) (v := ?_) rfl (by kernel_rfl) (by kernel_rfl) (by kernel_rfl) (by kernel_rfl) (by kernel_rfl) (fun _ _ _ h => h) (Or.inl ⟨by rfl, ?_⟩) (by assumption) ?_
        rotate_left
        · (intro w' hSw; (try dsimp only at hSw); go_simp; with_reducible rfl)
        try simp only [Act.put, List.setIfInBounds_toArray, List.set_cons_zero, List.set_cons_succ]
        refine takeL (i := 8) (v := ?_) rfl (by kernel_rfl) (by kernel_rfl) (by kernel_rfl) (by kernel_rfl) (by kernel_rfl) (fun _ _ _ h => h) (Or.inl ⟨by rfl, ?_⟩) (by assumption) ?_
        rotate_left
        · (intro w' hSw; (try dsimp only at hSw); go_simp; with_reducible rfl)
        try simp only [Act.put, List.setIfInBounds_toArray, List.set_cons_zero, List.set_cons_succ]
        refine takeL (i := 9) (v := ?_) rfl (by kernel_rfl) (by kernel_rfl) (by kernel_rfl) (by kernel_rfl) (by kernel_rfl) (fun _ _ _ h => h) (Or.inl ⟨by rfl, ?_⟩) (by assumption) ?_
        rotate_left
        · (intro w' hSw; (try dsimp only at hSw); go_simp; with_reducible rfl)
        try simp only [Act.put, List.setIfInBounds_toArray, List.set_cons_zero, List.set_cons_succ]
        refine takeL (i := 10) (v := ?_) rfl (by kernel_rfl) (by kernel_rfl) (by kernel_rfl) (by kernel_rfl) (by kernel_rfl) (fun _ _ _ h => h) (Or.inl ⟨by rfl, ?_⟩) (by assumption) ?_
        rotate_left
        · (intro w' hSw; (try dsimp only at hSw); go_simp; with_reducible rfl)
        try simp only [Act.put, List.setIfInBounds_toArray, List.set_cons_zero, List.set_cons_succ]
        refine oneL (i := 5) (by kernel_rfl) rfl (fun K hK => ?_)
        go_simp
        refine (PT1.out _ P1.out).mono ?_
        rintro e w5 ⟨rfl, p2⟩
        have P2 := Lib.hid p2
        have U2 := Lib.hid (duo_under p2)
        clear p2 P1 U1 PT1 za0 za1 za2 za3 za4 za5 za6 za7 hS
        have zb0 : w5.cell? ⟨b2, o + k * 8, none⟩ = some (.int .i64 i1) := EC2.out w5 U2.out 0 (by decide)
        have zb1 : w5.cell? ⟨b2, o + k * 8 + 1, none⟩ = some (.int .i64 i2) := EC2.out w5 U2.out 1 (by decide)
        have zb2 : w5.cell? ⟨b2, o + k * 8 + 2, none⟩ = some (.int .i64 i3) := EC2.out w5 U2.out 2 (by decide)
        have zb3 : w5.cell? ⟨b2, o + k * 8 + 3, none⟩ = some (.int .i64 i4) := EC2.out w5 U2.out 3 (by decide)
        have zb4 : w5.cell? ⟨b2, o + k * 8 + 4, none⟩ = some (.int .i64 i5) := EC2.out w5 U2.out 4 (by decide)
        have zb5 : w5.cell? ⟨b2, o + k * 8 + 5, none⟩ = some (.int .i64 i6) := EC2.out w5 U2.out 5 (by decide)
        have zb6 : w5.cell? ⟨b2, o + k * 8 + 6, none⟩ = some (.int .i64 i7) := EC2.out w5 U2.out 6 (by decide)
        have zb7 : w5.cell? ⟨b2, o + k * 8 + 7, none⟩ = some (.slice p n d) := EC2.out w5 U2.out 7 (by decide)
        refine hK.out _ _ (fun _ => ⟨zb0, zb1, zb2, zb3, zb4, zb5, zb6, zb7⟩) ?_
        clear hK K
        try simp only [Act.put, List.setIfInBounds_toArray, List.set_cons_zero, List.set_cons_succ]
        have hS := (show (fun w' => w'.cell? ⟨b2, o + k * 8, none⟩ = some (.int .i64 i1) ∧ w'.cell? ⟨b2, o + k * 8 + 1, none⟩ = some (.int .i64 i2) ∧ w'.cell? ⟨b2, o + k * 8 + 2, none⟩ = some (.int .i64 i3) ∧ w'.cell? ⟨b2, o + k * 8 + 3, none⟩ = some (.int .i64 i4) ∧ w'.cell? ⟨b2, o + k * 8 + 4, none⟩ = some (.int .i64 i5) ∧ w'.cell? ⟨b2, o + k * 8 + 5, none⟩ = some (.int .i64 i6) ∧ w'.cell? ⟨b2, o + k * 8 + 6, none⟩ = some (.int .i64 i7) ∧ w'.cell? ⟨b2, o + k * 8 + 7, none⟩ = some (.slice p n d)) w5 from ⟨zb0, zb1, zb2, zb3, zb4, zb5, zb6, zb7⟩)
        refine oneL (i := 11) (by kernel_rfl) rfl (fun K hK => ?_)
        go_simp
        refine (PT2.out _ _ P2.out).mono ?_
        rintro e w6 ⟨rfl, p2⟩
        have P3 := Lib.hid p2
        have U3 := Lib.hid (duo_under p2)
        have g1 : w6.cell? ⟨g, 1, none⟩ = some (.int .i64 s'.2) := (duo_given p2).1
        obtain ⟨bs, Bg, F5, v, l, tw⟩ := duo_two (duo_mono p2 (Nat.le_refl _) (Nat.le_refl _))
        have GIVEN := Lib.hid (fun W (hb : Below w6.heap.size w6 W) => eye_given tw hb)
        clear p2 P2 U2 PT2 zb0 zb1 zb2 zb3 zb4 zb5 zb6 zb7 hS tw
        have zc0 : w6.cell? ⟨b2, o + k * 8, none⟩ = some (.int .i64 i1) := EC2.out w6 U3.out 0 (by decide)
        have zc1 : w6.cell? ⟨b2, o + k * 8 + 1, none⟩ = some (.int .i64 i2) := EC2.out w6 U3.out 1 (by decide)
        have zc2 : w6.cell? ⟨b2, o + k * 8 + 2, none⟩ = some (.int .i64 i3) := EC2.out w6 U3.out 2 (by decide)
        have zc3 : w6.cell? ⟨b2, o + k * 8 + 3, none⟩ = some (.int .i64 i4) := EC2.out w6 U3.out 3 (by decide)
        have zc4 : w6.cell? ⟨b2, o + k * 8 + 4, none⟩ = some (.int .i64 i5) := EC2.out w6 U3.out 4 (by decide)
        have zc5 : w6.cell? ⟨b2, o + k * 8 + 5, none⟩ = some (.int .i64 i6) := EC2.out w6 U3.out 5 (by decide)
        have zc6 : w6.cell? ⟨b2, o + k * 8 + 6, none⟩ = some (.int .i64 i7) := EC2.out w6 U3.out 6 (by decide)
        have zc7 : w6.cell? ⟨b2, o + k * 8 + 7, none⟩ = some (.slice p n d) := EC2.out w6 U3.out 7 (by decide)
        refine hK.out _ _ (fun _ => ⟨zc0, zc1, zc2, zc3, zc4, zc5, zc6, zc7⟩) ?_
        clear hK K
        try simp only [Act.put, List.setIfInBounds_toArray, List.set_cons_zero, List.set_cons_succ]
        clear zc0 zc1 zc2 zc3 zc4 zc5 zc6 zc7
        refine laterS (fun w' => w'.cell? ⟨g, 1, none⟩ = some (.int .i64 s'.2)) 22 _ _ _ _ (by kernel_rfl) ?_
        refine takeL (i := 12) (v := ?_) rfl (by kernel_rfl) (by kernel_rfl) (by kernel_rfl) (by kernel_rfl) (by kernel_rfl) (fun _ _ _ h => h) (Or.inl ⟨by rfl, ?_⟩) (by assumption) ?_
        rotate_left
        · (intro w' hSw; (try dsimp only at hSw); go_simp; with_reducible rfl)
        try simp only [Act.put, List.setIfInBounds_toArray, List.set_cons_zero, List.set_cons_succ]
        refine takeL (i := 13) (v := ?_) rfl (by kernel_rfl) (by kernel_rfl) (by kernel_rfl) (by kernel_rfl) (by kernel_rfl) (fun _ _ _ h => h) (Or.inl ⟨by rfl, ?_⟩) (by assumption) ?_
        rotate_left
        · (intro w' hSw; (try dsimp only at hSw); go_simp; with_reducible rfl)
        try simp only [Act.put, List.setIfInBounds_toArray, List.set_cons_zero, List.set_cons_succ]
        refine takeL (i := 14) (v := ?_) rfl (by kernel_rfl) (by kernel_rfl) (by kernel_rfl) (by kernel_rfl) (by kernel_rfl) (fun _ _ _ h => h) (Or.inl ⟨by rfl, ?_⟩) (by assumption) ?_
        rotate_left
        · (intro w' hSw; (try dsimp only at hSw); go_simp; with_reducible rfl)
        try simp only [Act.put, List.setIfInBounds_toArray, List.set_cons_zero, List.set_cons_succ]
        refine takeL (i := 16) (v := ?_) rfl (by kernel_rfl) (by kernel_rfl) (by kernel_rfl) (by kernel_rfl) (by kernel_rfl) (fun _ _ _ h => h) (Or.inl ⟨by rfl, ?_⟩) (by assumption) ?_
        rotate_left
        · (intro w' hSw; (try dsimp only at hSw); go_simp; with_reducible rfl)
        try simp only [Act.put, List.setIfInBounds_toArray, List.set_cons_zero, List.set_cons_succ]
        refine takeL (i := 17) (v := ?_) rfl (by kernel_rfl) (by kernel_rfl) (by kernel_rfl) (by kernel_rfl) (by kernel_rfl) (fun _ _ _ h => h) (Or.inl ⟨by rfl, ?_⟩) (by assumption) ?_
        rotate_left
        · (intro w' hSw; (try dsimp only at hSw); go_simp; with_reducible rfl)
        try simp only [Act.put, List.setIfInBounds_toArray, List.set_cons_zero, List.set_cons_succ]
        refine takeL (i := 18) (v := ?_) rfl (by kernel_rfl) (by kernel_rfl) (by kernel_rfl) (by kernel_rfl) (by kernel_rfl) (fun _ _ _ h => h) (Or.inl ⟨by rfl, ?_⟩) (by assumption) ?_
        rotate_left
        · (intro w' hSw; (try dsimp only at hSw); go_simp; with_reducible rfl)
        try simp only [Act.put, List.setIfInBounds_toArray, List.set_cons_zero, List.set_cons_succ]
        refine takeL (i := 19) (v := ?_) rfl (by kernel_rfl) (by kernel_rfl) (by kernel_rfl) (by kernel_rfl) (by kernel_rfl) (fun _ _ _ h => h) (Or.inl ⟨by rfl, ?_⟩) (by assumption) ?_
        rotate_left
        · (intro w' hSw; (try dsimp only at hSw); go_simp; with_reducible rfl)
        try simp only [Act.put, List.setIfInBounds_toArray, List.set_cons_zero, List.set_cons_succ]
        refine oneL (i := 15) (by kernel_rfl) rfl (fun K hK => ?_)
        go_simp
        refine (GIVEN.out _ (Below.refl _ _)).mono ?_
        rintro e w7 ⟨rfl, hb⟩
        have g2 : w7.cell? ⟨g, 1, none⟩ = some (.int .i64 s'.2) := (hb.cell (p := ⟨g, 1, none⟩) (block_lt_of_cell g1)).trans g1
        have P4 := Lib.hid (duo_keep P3.out hb)
        clear hb g1 P3 U3 GIVEN
        refine hK.out _ _ (fun _ => g2) ?_
        clear hK K
        try simp only [Act.put, List.setIfInBounds_toArray, List.set_cons_zero, List.set_cons_succ]
        refine takeL (i := 20) (v := ?_) rfl (by kernel_rfl) (by kernel_rfl) (by kernel_rfl) (by kernel_rfl) (by kernel_rfl) (fun _ _ _ h => h) (Or.inl ⟨by rfl, ?_⟩) (by assumption) ?_
        rotate_left
        · (intro w' hSw; (try dsimp only at hSw); go_simp; with_reducible rfl)
        try simp only [Act.put, List.setIfInBounds_toArray, List.set_cons_zero, List.set_cons_succ]
        refine takeL (i := 21) (v := ?_) rfl (by kernel_rfl) (by kernel_rfl) (by kernel_rfl) (by kernel_rfl) (by kernel_rfl) (fun _ _ _ h => h) (Or.inl ⟨by rfl, ?_⟩) (by assumption) ?_
        rotate_left
        · (intro w' hSw; (try dsimp only at hSw); go_simp; with_reducible rfl)
        try simp only [Act.put, List.setIfInBounds_toArray, List.set_cons_zero, List.set_cons_succ]
        refine doneO (by kernel_rfl) ?_ _
        clear g2 EC2
        go_wp2
        go_roundw
        case rel => exact ⟨k + 1, s', by omega, by go_num, P4⟩
        case measure => simp [RowKit.intOf]; omega
      · have hl6 : (60 : Int) < (x.n : Int) := by omega
        have x7 : wr.cell? ⟨b2, o + k * 8 + 7, none⟩ = some (.slice x.p x.n x.c) := EC2.out wr U0.out 7 (by decide)
        have hn63 : (x.n : Int) ≤ 9223372036854775807 := by have := SN.out; omega
        clear EC2 SY SN hl60
        go_wp2_with fail
        refine (AL.out _).mono ?_
        rintro e w3 ⟨rfl, hb⟩
        go_wp2
        go_ret
        exact ⟨rfl, then_ U0.out hb⟩
    · have hna2 : ¬ (k : Int) < (na : Int) := by omega
      have U0 := Lib.hid (duo_under P0.out)
      have SD : Hid (Below wr.heap.size wr wr.drew) := Lib.hid ((Below.refl _ wr).drew)
      obtain ⟨bs, Bg, F5, v, l, tw⟩ := duo_two P0.out
      obtain ⟨nn, hnn⟩ : ∃ nn, s.1.length = nn := ⟨_, rfl⟩
      obtain ⟨q2, c2, hql⟩ := eye_list tw hnn
      have LOTS := Lib.hid (fun W (hb : Below wr.heap.size wr W) => eye_lots tw hnn hb)
      have SAME := Lib.hid (fun W q1 c1 L1 (e1 : lts L1 = s.1) (h1 : Ll W q1 nn L1) (h2 : Ll W q2 nn l) => eye_same tw hnn e1 tw.eq h1 h2 (c1 := c1) (c2 := c2))
      have G0 := Lib.hid hql
      have LOAD1 := Lib.hid (fun W (hb : Below wr.heap.size wr W) => eye_load1 tw (z := 1) ⟨by decide, by decide⟩ hb)
      have LOAD2 := Lib.hid (fun W (hb : Below wr.heap.size wr W) => eye_load2 tw 1 hb)
      generalize loadL s.1 1 = ld at LOAD1 LOAD2
      have GV1 := Lib.hid (fun W (hp : Duo I w.heap.size w W h g s s (60 + k) (60 + k)) => duo_give1 hp HI.out)
      have GV2 := Lib.hid (fun W s1 (hp : Duo I w.heap.size w W h g s1 s (60 + k) (60 + k)) => duo_give2 hp id)
      generalize giveS s id = R at GV1 GV2
      obtain ⟨er, s'⟩ := R
      simp only at GV1 GV2
      have NGV := Lib.hid (fun W => I.nil_give 1 W)
      have m0 := (hql wr (Below.refl _ _)).1
      have HGL := Lib.hid (block_lt_of_cell m0)
      clear tw hnn hql HA HAn HST hlt hk n3 n4
      obtain ⟨w5, hw5⟩ : ∃ w5 : World, wr = w5 := ⟨_, rfl⟩
      subst hw5
      go_wp2_with fail
      go_region_held3 (fun w' => w'.cell? ⟨g, 0, none⟩ = some (.slice q2 nn c2))
        (first | go_keep | exact m2 | exact m1 | exact m0)
        (first | (go_at_call 10; ((with_reducible refine (LOTS.out _ SD.out).mono ?_); rintro E w6 ⟨q1, c1, L1, e1, rfl, hl1, hb1⟩; have m1 := (hb1.cell (p := ⟨g, 0, none⟩) HGL.out).trans m0; have L1h := Lib.hid hl1; have E1 := Lib.hid e1; have B6 := Lib.hid (SD.out.trans (hb1.mono SD.out.size)); have L2 := Lib.hid (G0.out _ B6.out).2.2)) | (go_at_call 9; ((with_reducible refine (SAME.out _ _ _ _ E1.out L1h.out L2.out).mono ?_); rintro E w7 ⟨rfl, hb2⟩; have m2 := (hb2.cell (p := ⟨g, 0, none⟩) (Nat.lt_of_lt_of_le HGL.out B6.out.size)).trans m1)))
      all_goals
        have B7 := Lib.hid (B6.out.trans (hb2.mono B6.out.size))
        clear m0 m1 m2 e1 hl1 hb1 hb2 L1h L2 E1 B6 LOTS SAME SD G0 HGL
        go_wp2_with fail
        have B8 := Lib.hid (B7.out.drew)
        refine region_T 18 (fun _ => True) (by kernel_rfl) trivial (fun hS => ?_)
        refine oneL (i := 0) (by kernel_rfl) rfl (fun K hK => ?_)
        go_simp
        refine (AL.out _).mono ?_
        rintro e w8 ⟨rfl, hb⟩
        have B9 := Lib.hid (then_ B8.out hb)
        clear hb B8 B7
        refine hK.out _ _ (fun _ => trivial) ?_
        clear hK K
        try simp only [Act.put, List.setIfInBounds_toArray, List.set_cons_zero, List.set_cons_succ]
        refine takeL (i := 1) (v := ?_) rfl (by kernel_rfl) (by kernel_rfl) (by kernel_rfl) (by kernel_rfl) (by kernel_rfl) (fun _ _ _ h => h) (Or.inl ⟨by rfl, ?_⟩) (by assumption) ?_
        rotate_left
        · (intro w' hSw; (try dsimp only at hSw); go_simp; with_reducible rfl)
        try simp only [Act.put, List.setIfInBounds_toArray, List.set_cons_zero, List.set_cons_succ]
        refine takeL (i := 2) (v := ?_) rfl (by kernel_rfl) (by kernel_rfl) (by kernel_rfl) (by kernel_rfl) (by kernel_rfl) (fun _ _ _ h => h) (Or.inl ⟨by rfl, ?_⟩) (by assumption) ?_
        rotate_left
        · (intro w' hSw; (try dsimp only at hSw); go_simp; with_reducible rfl)
        try simp only [Act.put, List.setIfInBounds_toArray, List.set_cons_zero, List.set_cons_succ]
        refine takeL (i := 3) (v := ?_) rfl (by kernel_rfl) (by kernel_rfl) (by kernel_rfl) (by kernel_rfl) (by kernel_rfl) (fun _ _ _ h => h) (Or.inl ⟨by rfl, ?_⟩) (by assumption) ?_
        rotate_left
        · (intro w' hSw; (try dsimp only at hSw); go_simp; with_reducible rfl)
        try simp only [Act.put, List.setIfInBounds_toArray, List.set_cons_zero, List.set_cons_succ]
        refine takeL (i := 4) (v := ?_) rfl (by kernel_rfl) (by kernel_rfl) (by kernel_rfl) (by kernel_rfl) (by kernel_rfl) (fun _ _ _ h => h) (Or.inl ⟨by rfl, ?_⟩) (by assumption) ?_
        rotate_left
        · (intro w' hSw; (try dsimp only at hSw); go_simp; with_reducible rfl)
        try simp only [Act.put, List.setIfInBounds_toArray, List.set_cons_zero, List.set_cons_succ]
        refine takeL (i := 5) (v := ?_) rfl (by kernel_rfl) (by kernel_rfl) (by kernel_rfl) (by kernel_rfl) (by kernel_rfl) (fun _ _ _ h => h) (Or.inl ⟨by rfl, ?_⟩) (by assumption) ?_
        rotate_left
        · (intro w' hSw; (try dsimp only at hSw); go_simp; with_reducible rfl)
        try simp only [Act.put, List.setIfInBounds_toArray, List.set_cons_zero, List.set_cons_succ]
        refine takeL (i := 7) (v := ?_) rfl (by kernel_rfl) (by kernel_rfl) (by kernel_rfl) (by kernel_rfl) (by kernel_rfl) (fun _ _ _ h => h) (Or.inl ⟨by rfl, ?_⟩) (by assumption) ?_
        rotate_left
        · (intro w' hSw; (try dsimp only at hSw); go_simp; with_reducible rfl)
        try simp only [Act.put, List.setIfInBounds_toArray, List.set_cons_zero, List.set_cons_succ]
        refine oneL (i := 6) (by kernel_rfl) rfl (fun K hK => ?_)
        go_simp
        refine (LOAD1.out _ B9.out).mono ?_
        rintro e w9 ⟨rfl, hb⟩
        have B10 := Lib.hid (then_ B9.out hb)
        clear hb B9 LOAD1
        refine hK.out _ _ (fun _ => trivial) ?_
        clear hK K
        try simp only [Act.put, List.setIfInBounds_toArray, List.set_cons_zero, List.set_cons_succ]
        refine oneL (i := 8) (by kernel_rfl) rfl (fun K hK => ?_)
        go_simp
        refine (LOAD2.out _ B10.out).mono ?_
        rintro e w10 ⟨rfl, hb⟩
        have P11 := Lib.hid (duo_keep P0.out (then_ B10.out hb))
        clear hb B10 LOAD2
        refine hK.out _ _ (fun _ => trivial) ?_
        clear hK K
        try simp only [Act.put, List.setIfInBounds_toArray, List.set_cons_zero, List.set_cons_succ]
        refine takeL (i := 9) (v := ?_) rfl (by kernel_rfl) (by kernel_rfl) (by kernel_rfl) (by kernel_rfl) (by kernel_rfl) (fun _ _ _ h => h) (Or.inl ⟨by rfl, ?_⟩) (by assumption) ?_
        rotate_left
        · (intro w' hSw; (try dsimp only at hSw); go_simp; with_reducible rfl)
        try simp only [Act.put, List.setIfInBounds_toArray, List.set_cons_zero, List.set_cons_succ]
        refine takeL (i := 10) (v := ?_) rfl (by kernel_rfl) (by kernel_rfl) (by kernel_rfl) (by kernel_rfl) (by kernel_rfl) (fun _ _ _ h => h) (Or.inl ⟨by rfl, ?_⟩) (by assumption) ?_
        rotate_left
        · (intro w' hSw; (try dsimp only at hSw); go_simp; with_reducible rfl)
        try simp only [Act.put, List.setIfInBounds_toArray, List.set_cons_zero, List.set_cons_succ]
        refine takeL (i := 11) (v := ?_) rfl (by kernel_rfl) (by kernel_rfl) (by kernel_rfl) (by kernel_rfl) (by kernel_rfl) (fun _ _ _ h => h) (Or.inl ⟨by rfl, ?_⟩) (by assumption) ?_
        rotate_left
        · (intro w' hSw; (try dsimp only at hSw); go_simp; with_reducible rfl)
        try simp only [Act.put, List.setIfInBounds_toArray, List.set_cons_zero, List.set_cons_succ]
        refine takeL (i := 12) (v := ?_) rfl (by kernel_rfl) (by kernel_rfl) (by kernel_rfl) (by kernel_rfl) (by kernel_rfl) (fun _ _ _ h => h) (Or.inl ⟨by rfl, ?_⟩) (by assumption) ?_
        rotate_left
        · (intro w' hSw; (try dsimp only at hSw); go_simp; with_reducible rfl)
        try simp only [Act.put, List.setIfInBounds_toArray, List.set_cons_zero, List.set_cons_succ]
        refine takeL (i := 13) (v := ?_) rfl (by kernel_rfl) (by kernel_rfl) (by kernel_rfl) (by kernel_rfl) (by kernel_rfl) (fun _ _ _ h => h) (Or.inl ⟨by rfl, ?_⟩) (by assumption) ?_
        rotate_left
        · (intro w' hSw; (try dsimp only at hSw); go_simp; with_reducible rfl)
        try simp only [Act.put, List.setIfInBounds_toArray, List.set_cons_zero, List.set_cons_succ]
        refine takeL (i := 15) (v := ?_) rfl (by kernel_rfl) (by kernel_rfl) (by kernel_rfl) (by kernel_rfl) (by kernel_rfl) (fun _ _ _ h => h) (Or.inl ⟨by rfl, ?_⟩) (by assumption) ?_
        rotate_left
        · (intro w' hSw; (try dsimp only at hSw); go_simp; with_reducible rfl)
        try simp only [Act.put, List.setIfInBounds_toArray, List.set_cons_zero, List.set_cons_succ]
        refine takeL (i := 16) (v := ?_) rfl (by kernel_rfl) (by kernel_rfl) (by kernel_rfl) (by kernel_rfl) (by kernel_rfl) (fun _ _ _ h => h) (Or.inl ⟨by rfl, ?_⟩) (by assumption) ?_
        rotate_left
        · (intro w' hSw; (try dsimp only at hSw); go_simp; with_reducible rfl)
        try simp only [Act.put, List.setIfInBounds_toArray, List.set_cons_zero, List.set_cons_succ]
        refine oneL (i := 14) (by kernel_rfl) rfl (fun K hK => ?_)
        go_simp
        refine (GV1.out _ P11.out).mono ?_
        rintro e w11 ⟨rfl, p2⟩
        have P12 := Lib.hid p2
        clear p2 P11 GV1
        refine hK.out _ _ (fun _ => trivial) ?_
        clear hK K
        try simp only [Act.put, List.setIfInBounds_toArray, List.set_cons_zero, List.set_cons_succ]
        refine oneL (i := 17) (by kernel_rfl) rfl (fun K hK => ?_)
        go_simp
        refine (GV2.out _ _ P12.out).mono ?_
        rintro e w12 ⟨rfl, p2⟩
        have P13 := Lib.hid p2
        have g1 : w12.cell? ⟨g, 1, none⟩ = some (.int .i64 s'.2) := (duo_given p2).1
        obtain ⟨bs, Bg, F5, v, l, tw⟩ := duo_two p2
        have GIVEN := Lib.hid (fun W (hb : Below w12.heap.size w12 W) => eye_given tw hb)
        clear p2 P12 GV2 tw
        refine hK.out _ _ (fun _ => trivial) ?_
        clear hK K
        try simp only [Act.put, List.setIfInBounds_toArray, List.set_cons_zero, List.set_cons_succ]
        refine laterS (fun w' => w'.cell? ⟨g, 1, none⟩ = some (.int .i64 s'.2)) 35 _ _ _ _ (by kernel_rfl) ?_
        refine takeL (i := 18) (v := ?_) rfl (by kernel_rfl) (by kernel_rfl) (by kernel_rfl) (by kernel_rfl) (by kernel_rfl) (fun _ _ _ h => h) (Or.inl ⟨by rfl, ?_⟩) (by assumption) ?_
        rotate_left
        · (intro w' hSw; (try dsimp only at hSw); go_simp; with_reducible rfl)
        try simp only [Act.put, List.setIfInBounds_toArray, List.set_cons_zero, List.set_cons_succ]
        refine takeL (i := 19) (v := ?_) rfl (by kernel_rfl) (by kernel_rfl) (by kernel_rfl) (by kernel_rfl) (by kernel_rfl) (fun _ _ _ h => h) (Or.inl ⟨by rfl, ?_⟩) (by assumption) ?_
        rotate_left
        · (intro w' hSw; (try dsimp only at hSw); go_simp; with_reducible rfl)
        try simp only [Act.put, List.setIfInBounds_toArray, List.set_cons_zero, List.set_cons_succ]
        refine takeL (i := 20) (v := ?_) rfl (by kernel_rfl) (by kernel_rfl) (by kernel_rfl) (by kernel_rfl) (by kernel_rfl) (fun _ _ _ h => h) (Or.inl ⟨by rfl, ?_⟩) (by assumption) ?_
        rotate_left
        · (intro w' hSw; (try dsimp only at hSw); go_simp; with_reducible rfl)
        try simp only [Act.put, List.setIfInBounds_toArray, List.set_cons_zero, List.set_cons_succ]
        refine takeL (i := 21) (v := ?_) rfl (by kernel_rfl) (by kernel_rfl) (by kernel_rfl) (by kernel_rfl) (by kernel_rfl) (fun _ _ _ h => h) (Or.inl ⟨by rfl, ?_⟩) (by assumption) ?_
        rotate_left
        · (intro w' hSw; (try dsimp only at hSw); go_simp; with_reducible rfl)
        try simp only [Act.put, List.setIfInBounds_toArray, List.set_cons_zero, List.set_cons_succ]
        refine takeL (i := 23) (v := ?_) rfl (by kernel_rfl) (by kernel_rfl) (by kernel_rfl) (by kernel_rfl) (by kernel_rfl) (fun _ _ _ h => h) (Or.inl ⟨by rfl, ?_⟩) (by assumption) ?_
        rotate_left
        · (intro w' hSw; (try dsimp only at hSw); go_simp; with_reducible rfl)
        try simp only [Act.put, List.setIfInBounds_toArray, List.set_cons_zero, List.set_cons_succ]
        refine takeL (i := 24) (v := ?_) rfl (by kernel_rfl) (by kernel_rfl) (by kernel_rfl) (by kernel_rfl) (by kernel_rfl) (fun _ _ _ h => h) (Or.inl ⟨by rfl, ?_⟩) (by assumption) ?_
        rotate_left
        · (intro w' hSw; (try dsimp only at hSw); go_simp; with_reducible rfl)
        try simp only [Act.put, List.setIfInBounds_toArray, List.set_cons_zero, List.set_cons_succ]
        refine takeL (i := 25) (v := ?_) rfl (by kernel_rfl) (by kernel_rfl) (by kernel_rfl) (by kernel_rfl) (by kernel_rfl) (fun _ _ _ h => h) (Or.inl ⟨by rfl, ?_⟩) (by assumption) ?_
        rotate_left
        · (intro w' hSw; (try dsimp only at hSw); go_simp; with_reducible rfl)
        try simp only [Act.put, List.setIfInBounds_toArray, List.set_cons_zero, List.set_cons_succ]
        refine takeL (i := 26) (v := ?_) rfl (by kernel_rfl) (by kernel_rfl) (by kernel_rfl) (by kernel_rfl) (by kernel_rfl) (fun _ _ _ h => h) (Or.inl ⟨by rfl, ?_⟩) (by assumption) ?_
        rotate_left
        · (intro w' hSw; (try dsimp only at hSw); go_simp; with_reducible rfl)
        try simp only [Act.put, List.setIfInBounds_toArray, List.set_cons_zero, List.set_cons_succ]
        refine oneL (i := 22) (by kernel_rfl) rfl (fun K hK => ?_)
        go_simp
        refine (GIVEN.out _ (Below.refl _ _)).mono ?_
        rintro e w13 ⟨rfl, hb⟩
        have g2 : w13.cell? ⟨g, 1, none⟩ = some (.int .i64 s'.2) := (hb.cell (p := ⟨g, 1, none⟩) (block_lt_of_cell g1)).trans g1
        have P14 := Lib.hid (duo_keep P13.out hb)
        clear hb g1 P13 GIVEN
        refine hK.out _ _ (fun _ => g2) ?_
        clear hK K
        try simp only [Act.put, List.setIfInBounds_toArray, List.set_cons_zero, List.set_cons_succ]
        refine takeL (i := 27) (v := ?_) rfl (by kernel_rfl) (by kernel_rfl) (by kernel_rfl) (by kernel_rfl) (by kernel_rfl) (fun _ _ _ h => h) (Or.inl ⟨by rfl, ?_⟩) (by assumption) ?_
        rotate_left
        · (intro w' hSw; (try dsimp only at hSw); go_simp; with_reducible rfl)
        try simp only [Act.put, List.setIfInBounds_toArray, List.set_cons_zero, List.set_cons_succ]
        refine takeL (i := 28) (v := ?_) rfl (by kernel_rfl) (by kernel_rfl) (by kernel_rfl) (by kernel_rfl) (by kernel_rfl) (fun _ _ _ h => h) (Or.inl ⟨by rfl, ?_⟩) (by assumption) ?_
        rotate_left
        · (intro w' hSw; (try dsimp only at hSw); go_simp; with_reducible rfl)
        try simp only [Act.put, List.setIfInBounds_toArray, List.set_cons_zero, List.set_cons_succ]
        refine takeL (i := 29) (v := ?_) rfl (by kernel_rfl) (by kernel_rfl) (by kernel_rfl) (by kernel_rfl) (by kernel_rfl) (fun _ _ _ h => h) (Or.inl ⟨by rfl, ?_⟩) (by assumption) ?_
        rotate_left
        · (intro w' hSw; (try dsimp only at hSw); go_simp; with_reducible rfl)
        try simp only [Act.put, List.setIfInBounds_toArray, List.set_cons_zero, List.set_cons_succ]
        refine takeL (i := 30) (v := ?_) rfl (by kernel_rfl) (by kernel_rfl) (by kernel_rfl) (by kernel_rfl) (by kernel_rfl) (fun _ _ _ h => h) (Or.inl ⟨by rfl, ?_⟩) (by assumption) ?_
        rotate_left
        · (intro w' hSw; (try dsimp only at hSw); go_simp; with_reducible rfl)
        try simp only [Act.put, List.setIfInBounds_toArray, List.set_cons_zero, List.set_cons_succ]
        refine oneL (i := 31) (by kernel_rfl) rfl (fun K hK => ?_)
        go_simp
        refine (NGV.out _).mono ?_
        rintro e w14 ⟨rfl, hb⟩
        have g3 : w14.cell? ⟨g, 1, none⟩ = some (.int .i64 s'.2) := (hb.cell (p := ⟨g, 1, none⟩) (block_lt_of_cell g2)).trans g2
        have U14 := Lib.hid (duo_under (duo_keep P14.out hb))
        clear hb g2 P14 NGV
        refine hK.out _ _ (fun _ => g3) ?_
        clear hK K
        try simp only [Act.put, List.setIfInBounds_toArray, List.set_cons_zero, List.set_cons_succ]
        refine takeL (i := 32) (v := ?_) rfl (by kernel_rfl) (by kernel_rfl) (by kernel_rfl) (by kernel_rfl) (by kernel_rfl) (fun _ _ _ h => h) (Or.inl ⟨by rfl, ?_⟩) (by assumption) ?_
        rotate_left
        · (intro w' hSw; (try dsimp only at hSw); go_simp; with_reducible rfl)
        try simp only [Act.put, List.setIfInBounds_toArray, List.set_cons_zero, List.set_cons_succ]
        refine takeL (i := 33) (v := ?_) rfl (by kernel_rfl) (by kernel_rfl) (by kernel_rfl) (by kernel_rfl) (by kernel_rfl) (fun _ _ _ h => h) (Or.inl ⟨by rfl, ?_⟩) (by assumption) ?_
        rotate_left
        · (intro w' hSw; (try dsimp only at hSw); go_simp; with_reducible rfl)
        try simp only [Act.put, List.setIfInBounds_toArray, List.set_cons_zero, List.set_cons_succ]
        refine takeL (i := 34) (v := ?_) rfl (by kernel_rfl) (by kernel_rfl) (by kernel_rfl) (by kernel_rfl) (by kernel_rfl) (fun _ _ _ h => h) (Or.inl ⟨by rfl, ?_⟩) (by assumption) ?_
        rotate_left
        · (intro w' hSw; (try dsimp only at hSw); go_simp; with_reducible rfl)
        try simp only [Act.put, List.setIfInBounds_toArray, List.set_cons_zero, List.set_cons_succ]
        refine doneO (by kernel_rfl) ?_ _
        go_wp2
        go_ret
        exact ⟨rfl, U14.out⟩
end
end Lo
end Go.Proofs.Ytkfmkchonlajpaa

namespace Go.Proofs.Ytkfmkchonlajpaa
open Go.RowKit Go.ChangeShapes Go.WideShapes

theorem own : ownKnob Try.prog.godebug = none := by kernel_rfl
set_option maxRecDepth 100000 in
theorem u_arg0_of {H : Type} {enc : TypeId × Value → H} {W : World} {base : Nat} {v : Value} {d : DataW H} {ps : List MemPlace} (hv : Value.okWide Try.prog W .any base 22 v) (h : DataW.Trod enc Try.prog W 0 (fun _ => true) true 22 v d ps) :
    ∃ x, Lo.InL W v x := Lo.inL_of hv h
set_option maxRecDepth 100000 in
theorem u_arg1_of {H : Type} {enc : TypeId × Value → H} {W : World} {base : Nat} {v : Value} {d : DataW H} {ps : List MemPlace} (hv : Value.okWide Try.prog W .any base 3 v) (h : DataW.Trod enc Try.prog W 0 (fun _ => true) true 3 v d ps) :
    ∃ x, InI .i64 v x := inI_of Try.underlying3 hv h
namespace Lo
theorem puts_of {M : Ms.Face} (I : Face M) (v0 : Value) (y : Sl) (v1 : Value) (m : Int) (W : World) (w0 : InL W v0 y) (w1 : InI .i64 v1 m) :
    Calls Try.prog 3 #[v0, v1] W fun e w' => e = .returned (.bool true) ∧ Below W.heap.size W w' := by
  obtain ⟨rfl, hnc, hb, l, hl, hs⟩ := w0
  obtain ⟨rfl, hm⟩ := w1
  by_cases hn : 60 < y.n
  · exact puts_long I y.p y.n y.c m W hn hb
  · exact puts_short I y.p y.n y.c l m W (by omega) hnc hl (i64_in hm) hs
end Lo
end Go.Proofs.Ytkfmkchonlajpaa

namespace Go.Proofs.Ytkfmkchonlajpaa
open Go.RowKit Go.Maps

namespace Lo
/-- A lot's value: its numbers, and where its stays lie. -/
structure Lr where
  id : Int
  product : Int
  units : Int
  expiry : Int
  grant : Int
  order : Int
  status : Int
  p : Option Addr
  n : Nat
  c : Nat
def raw (y : Lv) : Lr := ⟨y.x.id, y.x.product, y.x.units, y.x.expiry, y.x.grant, y.x.order, y.x.status, y.p, y.n, y.c⟩
def rval (r : Lr) : Value := .agg #[.int .i64 r.id, .int .i64 r.product, .int .i64 r.units, .int .i64 r.expiry, .int .i64 r.grant, .int .i64 r.order, .int .i64 r.status, .slice r.p r.n r.c]
theorem rval_raw (y : Lv) : rval (raw y) = lval y := rfl
def ndat (n : Nat) : DataW Unit := .lit (.int .i64 n)
def pdat : Option Addr → DataW Unit
  | none => .nil
  | some ⟨b, o, none⟩ => .agg [ndat b, ndat o]
  | some ⟨b, o, some k⟩ => .agg [ndat b, ndat o, ndat k]
theorem ndat_inj {a b : Nat} (h : ndat a = ndat b) : a = b := by
  simp only [ndat, DataW.lit.injEq, Lit.int.injEq, true_and] at h
  omega
theorem pdat_inj : ∀ {p q : Option Addr}, pdat p = pdat q → p = q
  | none, none, _ => rfl
  | none, some ⟨_, _, none⟩, h => by cases h
  | none, some ⟨_, _, some _⟩, h => by cases h
  | some ⟨_, _, none⟩, none, h => by cases h
  | some ⟨_, _, some _⟩, none, h => by cases h
  | some ⟨b, o, none⟩, some ⟨b2, o2, none⟩, h => by
    simp only [pdat, DataW.agg.injEq, List.cons.injEq, and_true] at h
    rw [ndat_inj h.1, ndat_inj h.2]
  | some ⟨_, _, none⟩, some ⟨_, _, some _⟩, h => by simp [pdat] at h
  | some ⟨_, _, some _⟩, some ⟨_, _, none⟩, h => by simp [pdat] at h
  | some ⟨b, o, some k⟩, some ⟨b2, o2, some k2⟩, h => by
    simp only [pdat, DataW.agg.injEq, List.cons.injEq, and_true] at h
    rw [ndat_inj h.1, ndat_inj h.2.1, ndat_inj h.2.2]
def rdat (r : Lr) : DataW Unit := .agg [.lit (.int .i64 r.id), .lit (.int .i64 r.product), .lit (.int .i64 r.units), .lit (.int .i64 r.expiry), .lit (.int .i64 r.grant), .lit (.int .i64 r.order), .lit (.int .i64 r.status), pdat r.p, ndat r.n, ndat r.c]
theorem lr_ext {x y : Lr} (h : x.id = y.id ∧ x.product = y.product ∧ x.units = y.units ∧ x.expiry = y.expiry ∧ x.grant = y.grant ∧ x.order = y.order ∧ x.status = y.status ∧ x.p = y.p ∧ x.n = y.n ∧ x.c = y.c) : x = y := by
  cases x
  cases y
  simp only at h
  obtain ⟨rfl, rfl, rfl, rfl, rfl, rfl, rfl, rfl, rfl, rfl⟩ := h
  rfl
def Lf : Ms.Form Lr := ⟨rval, rdat, fun {x y} h => by
  simp only [rval, Value.agg.injEq, Array.mk.injEq, List.cons.injEq, Value.int.injEq, Value.slice.injEq, true_and, and_true] at h
  exact lr_ext h, fun {x y} h => by
  simp only [rdat, DataW.agg.injEq, List.cons.injEq, DataW.lit.injEq, Lit.int.injEq, true_and, and_true] at h
  obtain ⟨h1, h2, h3, h4, h5, h6, h7, h8, h9, h10⟩ := h
  exact lr_ext ⟨h1, h2, h3, h4, h5, h6, h7, pdat_inj h8, ndat_inj h9, ndat_inj h10⟩⟩
def lr0 : Lr := ⟨0, 0, 0, 0, 0, 0, 0, none, 0, 0⟩
theorem zeroL (W : World) : (zeroValue 32).run Try.prog W = .ok (Lf.enc lr0) W := by kernel_rfl
/-- A list's numbers differ. -/
def Apt (S : List Lr) : Prop := S.Pairwise fun a b => a.id ≠ b.id
theorem apt_ne {S : List Lr} (h : Apt S) {i j : Nat} {x y : Lr} (hx : S[i]? = some x) (hy : S[j]? = some y) (hij : i ≠ j) : x.id ≠ y.id := by
  obtain ⟨h1, e1⟩ := List.getElem?_eq_some_iff.1 hx
  obtain ⟨h2, e2⟩ := List.getElem?_eq_some_iff.1 hy
  rw [← e1, ← e2]
  rcases Nat.lt_or_gt_of_ne hij with h3 | h3
  · exact List.pairwise_iff_getElem.1 h i j h1 h2 h3
  · exact (List.pairwise_iff_getElem.1 h j i h2 h1 h3).symm
/-- One more at the end. -/
theorem mp_app {D : DataW Unit} {S : List Lr} (h : Ms.Mp Lf Lr.id D S) (ht : Maps.Tidy D) {x : Lr} (hn : ∀ y ∈ S, y.id ≠ x.id) : Ms.Mp Lf Lr.id (D.put (.int .i64 x.id) (rdat x)) (S ++ [x]) := by
  refine ⟨fun y hy z => ?_, fun n hh => ?_, ?_⟩
  · rcases List.mem_append.1 hy with hy | hy
    · rw [Maps.atKey_put_other (Ms.lit_ne (hn y hy))]
      exact h.each y hy z
    · rw [List.mem_singleton.1 hy]
      exact Maps.atKey_put_same ht.isMap (Ms.key_lit _) _ _
  · by_cases e : n = x.id
    · exact ⟨x, by simp, e.symm⟩
    · rw [Maps.has_put_other (Ms.lit_ne e)] at hh
      obtain ⟨y, hy, e2⟩ := h.only n hh
      exact ⟨y, List.mem_append.2 (.inl hy), e2⟩
  · have hno : Maps.has D (.int .i64 x.id) = false := by
      cases hb : Maps.has D (.int .i64 x.id)
      · rfl
      · obtain ⟨y, hy, e⟩ := h.only _ hb
        exact absurd e (hn y hy)
    rw [Maps.size_put ht, if_neg (by rw [hno]; exact Bool.false_ne_true), h.size]
    simp
/-- Another one of its number in its place. -/
theorem mp_set {D : DataW Unit} {S : List Lr} (h : Ms.Mp Lf Lr.id D S) (ht : Maps.Tidy D) (hS : Apt S) {i : Nat} {x y : Lr} (hi : S[i]? = some y) (he : y.id = x.id) : Ms.Mp Lf Lr.id (D.put (.int .i64 x.id) (rdat x)) (S.set i x) := by
  have hl := (List.getElem?_eq_some_iff.1 hi).1
  refine ⟨fun z hz v => ?_, fun n hh => ?_, ?_⟩
  · obtain ⟨j, hj⟩ := List.mem_iff_getElem?.1 hz
    by_cases hji : j = i
    · subst hji
      rw [List.getElem?_set_self hl] at hj
      rw [← Option.some.inj hj]
      exact Maps.atKey_put_same ht.isMap (Ms.key_lit _) _ _
    · rw [List.getElem?_set_ne (fun e => hji e.symm)] at hj
      rw [Maps.atKey_put_other (Ms.lit_ne (by rw [← he]; exact apt_ne hS hj hi hji))]
      exact h.each z (List.mem_of_getElem? hj) v
  · by_cases e : n = x.id
    · exact ⟨x, List.mem_of_getElem? (List.getElem?_set_self hl), e.symm⟩
    · rw [Maps.has_put_other (Ms.lit_ne e)] at hh
      obtain ⟨z, hz, e2⟩ := h.only n hh
      obtain ⟨j, hj⟩ := List.mem_iff_getElem?.1 hz
      refine ⟨z, List.mem_of_getElem? (i := j) ?_, e2⟩
      rw [List.getElem?_set_ne]
      · exact hj
      · intro hij
        subst hij
        rw [hi] at hj
        rw [← Option.some.inj hj] at e2
        omega
  · have hyes : Maps.has D (.int .i64 x.id) = true := by
      rw [← he]
      exact Maps.has_true_of_atKey (h.each y (List.mem_of_getElem? hi))
    rw [Maps.size_put ht, if_pos hyes, h.size]
    simp
/-- One less. -/
theorem mp_del {D : DataW Unit} {S : List Lr} (h : Ms.Mp Lf Lr.id D S) (ht : Maps.Tidy D) (hS : Apt S) {i : Nat} {y : Lr} (hi : S[i]? = some y) : Ms.Mp Lf Lr.id (D.del (.int .i64 y.id)) (S.eraseIdx i) := by
  have hl := (List.getElem?_eq_some_iff.1 hi).1
  refine ⟨fun z hz v => ?_, fun n hh => ?_, ?_⟩
  · obtain ⟨j, hj, hj2⟩ := List.mem_eraseIdx_iff_getElem?.1 hz
    rw [Maps.atKey_del_other (Ms.lit_ne (apt_ne hS hj2 hi hj))]
    exact h.each z (List.mem_of_getElem? hj2) v
  · by_cases e : n = y.id
    · subst e
      rw [Maps.has_del_same] at hh
      cases hh
    · rw [Maps.has_del_other (Ms.lit_ne e)] at hh
      obtain ⟨z, hz, e2⟩ := h.only n hh
      obtain ⟨j, hj⟩ := List.mem_iff_getElem?.1 hz
      refine ⟨z, List.mem_eraseIdx_iff_getElem?.2 ⟨j, fun e3 => ?_, hj⟩, e2⟩
      subst e3
      rw [hi] at hj
      rw [← Option.some.inj hj] at e2
      omega
  · have hyes : Maps.has D (.int .i64 y.id) = true := Maps.has_true_of_atKey (h.each y (List.mem_of_getElem? hi))
    have h1 := Maps.size_del (k := .int .i64 y.id) ht
    rw [if_pos hyes, h.size] at h1
    rw [List.length_eraseIdx_of_lt hl]
    omega
/-- What a number holds. -/
theorem tlookL {w : World} {B : Nat} {mo : Option Nat} {S : List Lr} (ht : Ms.Tab Lf Lr.id w B mo S) {m : Int} (hm : Ms.In64 m) (W : World) (hW : Below w.heap.size w W) :
    (Instr.lookup 58 (.map mo) (.int .i64 m) true).run Try.prog W = .ok (.tuple #[rval ((Ms.findK Lr.id m S).getD lr0), .bool (Ms.findK Lr.id m S).isSome]) W := by
  rcases ht with ⟨rfl, rfl⟩ | ⟨b, D, rfl, _, hown, hM⟩
  · rw [Maps.look_nil true Ms.lawI Try.underlying58 (zeroL W) (Ms.key_of hm)]
    rfl
  · exact Ms.look Try.underlying58 lr0 zeroL hown hM hm W (hW.block b hown.lt)
theorem tlook1L {w : World} {B : Nat} {mo : Option Nat} {S : List Lr} (ht : Ms.Tab Lf Lr.id w B mo S) {m : Int} (hm : Ms.In64 m) (W : World) (hW : Below w.heap.size w W) :
    (Instr.lookup 58 (.map mo) (.int .i64 m) false).run Try.prog W = .ok (rval ((Ms.findK Lr.id m S).getD lr0)) W := by
  rcases ht with ⟨rfl, rfl⟩ | ⟨b, D, rfl, _, hown, hM⟩
  · rw [Maps.look_nil false Ms.lawI Try.underlying58 (zeroL W) (Ms.key_of hm)]
    rfl
  · exact Ms.look1 Try.underlying58 lr0 zeroL hown hM hm W (hW.block b hown.lt)
/-- Lots' numbers, and where they stand. -/
theorem find_at (id : Int) : ∀ (L : List Lv), Ms.findK Lr.id id (L.map raw) = (at_ id (lts L)).bind fun i => (L[i]?).map raw
  | [] => rfl
  | y :: L => by
    have ih := find_at id L
    simp only [List.map_cons, Ms.findK, lts, at_] at *
    by_cases h : y.x.id = id
    · rw [if_pos h, if_pos (show (raw y).id = id from h)]
      rfl
    · rw [if_neg h, if_neg (show ¬ (raw y).id = id from h), ih]
      cases at_ id (L.map Lv.x) <;> rfl
end Lo
end Go.Proofs.Ytkfmkchonlajpaa

namespace Go.Proofs.Ytkfmkchonlajpaa
open Go.RowKit

namespace Sy
/-- A stay's cells. -/
theorem rw_at {w : World} {p : Option Addr} {n : Nat} {S : List Sy} (h : Rw 3 scells w p n S) {k : Nat} {x : Sy} (hx : S[k]? = some x) :
    ∃ b o, p = some ⟨b, o, none⟩ ∧ w.cell? ⟨b, o + k * 3, none⟩ = some (.int .i64 x.zone) ∧ w.cell? ⟨b, o + k * 3 + 1, none⟩ = some (.int .i64 x.frm) ∧ w.cell? ⟨b, o + k * 3 + 2, none⟩ = some (.int .i64 x.to) := by
  have hk : k < S.length := (List.getElem?_eq_some_iff.1 hx).1
  obtain ⟨b, o, e, hc⟩ := h.2 (by rw [← h.1]; omega)
  exact ⟨b, o, e, hc k x hx 0 (by decide), hc k x hx 1 (by decide), hc k x hx 2 (by decide)⟩
/-- What stands ahead of the one that a loop is at is as it may be. -/
def Ahead (S : List Sy) (k : Nat) : Prop := ∀ i s, i < k → S[i]? = some s → 1 ≤ s.zone ∧ 0 ≤ s.frm ∧ (s.frm < s.to ∨ s.to = -1) ∧ ∀ t, 0 < i → S[i - 1]? = some t → s.frm = t.to
theorem ahead_zero (S : List Sy) : Ahead S 0 := fun i s h => by omega
theorem ahead_next {S : List Sy} {k : Nat} {x : Sy} (h : Ahead S k) (hx : S[k]? = some x) (h1 : 1 ≤ x.zone ∧ 0 ≤ x.frm ∧ (x.frm < x.to ∨ x.to = -1) ∧ ∀ t, 0 < k → S[k - 1]? = some t → x.frm = t.to) : Ahead S (k + 1) := fun i s hi hs => by
  by_cases hlt : i < k
  · exact h i s hlt hs
  · obtain rfl : i = k := by omega
    rw [hx] at hs
    rw [← Option.some.inj hs]
    exact h1
theorem ahead_all {S : List Sy} (h : Ahead S S.length) : rightB S = true := rightB_iff.2 fun i s hs => h i s (List.getElem?_eq_some_iff.1 hs).1 hs
set_option maxRecDepth 100000 in
set_option maxHeartbeats 8000000 in
theorem pright_any (p : Option Addr) (n c : Nat) (S : List Sy) (w : World) (h : Rw 3 scells w p n S) (hn : n ≤ 1000000) :
    Calls Try.prog 47 #[.slice p n c] w fun e w' => e = .returned (.bool (rightB S)) ∧ Below w.heap.size w w' := by
  have hn' : (n : Int) ≤ 1000000 := by omega
  have H := Lib.hid h
  have HN := Lib.hid h.1
  have B0 := Lib.hid (Below.refl w.heap.size w)
  clear h
  go_enter Try.func47, Try.ntmps47
  go_wp2_with fail
  go_loopw [7] (fun i wr => ∃ k : Nat, k ≤ n ∧ i = .int .i64 k ∧ Hid (Below w.heap.size w wr) ∧ Hid (Ahead S k)) (fun i _ => n - (RowKit.intOf i).toNat)
  case atStart => exact ⟨0, Nat.zero_le _, rfl, B0, Lib.hid (ahead_zero S)⟩
  case round =>
    clear B0
    obtain ⟨k, hk, rfl, HB, HA⟩ := hrel
    by_cases hlt : k < n
    · obtain ⟨x, hx⟩ : ∃ x, S[k]? = some x := ⟨_, List.getElem?_eq_getElem (by rw [HN.out]; exact hlt)⟩
      obtain ⟨b, o, rfl, e0, e1, e2⟩ := rw_at (H.out.keep scells_len HB.out) hx
      have hk3 : (k : Int) < (n : Int) := by omega
      have HX := Lib.hid hx
      have B1 := Lib.hid (HB.out.alloc (HB.out.size) (.cells (scells x).toArray 57))
      have hbad : ¬ (1 ≤ x.zone ∧ 0 ≤ x.frm ∧ (x.frm < x.to ∨ x.to = -1)) → Hid (rightB S = false) := fun h => Lib.hid (right_bad HX.out (fun hh => h ⟨hh.1, hh.2.1, hh.2.2.1⟩))
      have lb := World.block_lt_of_cell? wr _ e0
      by_cases hz : 1 ≤ x.zone
      · by_cases hf : 0 ≤ x.frm
        · by_cases ht : x.frm < x.to ∨ x.to = -1
          · rcases Nat.lt_or_ge 0 k with hk0 | hk0
            · obtain ⟨y, hy⟩ : ∃ y, S[k - 1]? = some y := ⟨_, List.getElem?_eq_getElem (by rw [HN.out]; omega)⟩
              obtain ⟨b', o', eq, _, _, f2⟩ := rw_at (H.out.keep scells_len HB.out) hy
              cases eq
              have gk : decide (0 < k) = true := by simp; omega
              have hw2 : IntKind.i64.wrap ((k : Int) - 1) = ((k - 1 : Nat) : Int) := by rw [show (k : Int) - 1 = ((k - 1 : Nat) : Int) by omega]; exact IntWalk.i64_in _ (by omega)
              have hj3 : ((k - 1 : Nat) : Int) < (n : Int) := by omega
              have HY := Lib.hid hy
              obtain ⟨j, hj⟩ : ∃ j, k - 1 = j := ⟨_, rfl⟩
              rw [hj] at hw2 hj3 f2
              have HJ := Lib.hid hj
              clear hj
              by_cases hq : x.frm = y.to
              · have A1 := Lib.hid (ahead_next HA.out HX.out ⟨hz, hf, ht, fun t _ h1 => by rw [HY.out] at h1; rw [← Option.some.inj h1]; exact hq⟩)
                have tq : (x.frm != y.to) = false := by simp [hq]
                clear hbad hx hy hq
                rcases ht with ht | ht
                · have tt : ¬ x.to ≤ x.frm := by omega
                  go_wp2_with fail
                  go_quiet (fail)
                  go_wp2
                  go_roundw
                  case rel => exact ⟨k + 1, by omega, by go_num, Lib.hid (below_drewN B1.out _), A1⟩
                  case measure => simp [RowKit.intOf]; omega
                · by_cases htt : x.frm < x.to
                  · have tt : ¬ x.to ≤ x.frm := by omega
                    clear ht
                    go_wp2_with fail
                    go_quiet (fail)
                    go_wp2
                    go_roundw
                    case rel => exact ⟨k + 1, by omega, by go_num, Lib.hid (below_drewN B1.out _), A1⟩
                    case measure => simp [RowKit.intOf]; omega
                  · have tt : x.to ≤ x.frm := by omega
                    have te : (x.to != -1) = false := by simp [ht]
                    clear ht htt
                    go_wp2_with fail
                    go_quiet (fail)
                    go_wp2
                    go_roundw
                    case rel => exact ⟨k + 1, by omega, by go_num, Lib.hid (below_drewN B1.out _), A1⟩
                    case measure => simp [RowKit.intOf]; omega
              · have HR := Lib.hid (right_bad HX.out (fun hh => hq (hh.2.2.2 y hk0 HY.out)))
                have tq : (x.frm != y.to) = true := by simp [hq]
                clear hbad hx hy hq
                rcases ht with ht | ht
                · have tt : ¬ x.to ≤ x.frm := by omega
                  go_wp2_with fail
                  go_quiet (fail)
                  go_wp2
                  go_ret
                  exact ⟨by rw [HR.out]; rfl, below_drewN B1.out _⟩
                · by_cases htt : x.frm < x.to
                  · have tt : ¬ x.to ≤ x.frm := by omega
                    clear ht
                    go_wp2_with fail
                    go_quiet (fail)
                    go_wp2
                    go_ret
                    exact ⟨by rw [HR.out]; rfl, below_drewN B1.out _⟩
                  · have tt : x.to ≤ x.frm := by omega
                    have te : (x.to != -1) = false := by simp [ht]
                    clear ht htt
                    go_wp2_with fail
                    go_quiet (fail)
                    go_wp2
                    go_ret
                    exact ⟨by rw [HR.out]; rfl, below_drewN B1.out _⟩
            · have A1 := Lib.hid (ahead_next HA.out HX.out ⟨hz, hf, ht, fun t h0 => by omega⟩)
              have gk : decide (0 < k) = false := by simp; omega
              have hkk := Lib.hid hk0
              clear hbad hx hk0
              rcases ht with ht | ht
              · have tt : ¬ x.to ≤ x.frm := by omega
                go_wp2_with fail
                go_quiet (fail)
                go_wp2
                go_roundw
                case rel => exact ⟨k + 1, by omega, by go_num, Lib.hid (below_drewN B1.out _), A1⟩
                case measure => simp [RowKit.intOf]; omega
              · by_cases htt : x.frm < x.to
                · have tt : ¬ x.to ≤ x.frm := by omega
                  clear ht
                  go_wp2_with fail
                  go_quiet (fail)
                  go_wp2
                  go_roundw
                  case rel => exact ⟨k + 1, by omega, by go_num, Lib.hid (below_drewN B1.out _), A1⟩
                  case measure => simp [RowKit.intOf]; omega
                · have tt : x.to ≤ x.frm := by omega
                  have te : (x.to != -1) = false := by simp [ht]
                  clear ht htt
                  go_wp2_with fail
                  go_quiet (fail)
                  go_wp2
                  go_roundw
                  case rel => exact ⟨k + 1, by omega, by go_num, Lib.hid (below_drewN B1.out _), A1⟩
                  case measure => simp [RowKit.intOf]; omega
          · have HR := hbad (fun hh => ht hh.2.2)
            have tt : x.to ≤ x.frm := by omega
            have te : (x.to != -1) = true := by simp; omega
            clear hbad hx ht
            go_wp2
            go_ret
            exact ⟨by rw [HR.out]; rfl, B1.out⟩
        · have hf' : x.frm < 0 := by omega
          have HR := hbad (fun hh => hf hh.2.1)
          clear hbad hx hf
          go_wp2
          go_ret
          exact ⟨by rw [HR.out]; rfl, B1.out⟩
      · have hz' : x.zone < 1 := by omega
        have HR := hbad (fun hh => hz hh.1)
        clear hbad hx hz
        go_wp2
        go_ret
        exact ⟨by rw [HR.out]; rfl, B1.out⟩
    · obtain rfl : k = n := by omega
      have HE := Lib.hid (ahead_all (by rw [HN.out]; exact HA.out))
      go_wp2
      go_ret
      exact ⟨by rw [HE.out]; rfl, HB.out⟩
end Sy
end Go.Proofs.Ytkfmkchonlajpaa

namespace Go.Proofs.Ytkfmkchonlajpaa
open Go.RowKit

namespace Sy
def onB (S : List Sy) : Bool := match S.getLast? with | none => false | some s => decide (s.to = -1)
theorem on_B {S : List Sy} : onB S = true ↔ On S := by
  rcases ends_of S with rfl | ⟨A, s, rfl⟩
  · constructor
    · intro h
      cases h
    · rintro ⟨A, x, h, _⟩
      simp at h
  · unfold onB
    rw [List.getLast?_concat]
    constructor
    · intro h
      exact ⟨A, s, rfl, by simpa using h⟩
    · rintro ⟨B, x, h, hx⟩
      have := (List.append_inj' h rfl).2
      simp only [List.cons.injEq, and_true] at this
      subst this
      simp [hx]
theorem on_no {S : List Sy} (h : ¬ On S) : onB S = false := by
  cases hb : onB S
  · rfl
  · exact absurd (on_B.1 hb) h
theorem last_at {S : List Sy} {n : Nat} (hn : S.length = n) (h0 : 0 < n) : ∃ x, S[n - 1]? = some x ∧ S.getLast? = some x := by
  have : n - 1 < S.length := by omega
  exact ⟨_, List.getElem?_eq_getElem this, by rw [List.getLast?_eq_getElem?, hn, List.getElem?_eq_getElem this]⟩
set_option maxRecDepth 100000 in
set_option maxHeartbeats 4000000 in
theorem pon_any (p : Option Addr) (n c : Nat) (S : List Sy) (w : World) (h : Rw 3 scells w p n S) (hn : n ≤ 1000000) :
    Calls Try.prog 66 #[.slice p n c] w fun e w' => e = .returned (.bool (onB S)) ∧ w = w' := by
  have hn' : (n : Int) ≤ 1000000 := by omega
  rcases Nat.lt_or_ge 0 n with h0 | h0
  · obtain ⟨x, hx, hl⟩ := last_at h.1 h0
    obtain ⟨b, o, rfl, e0, e1, e2⟩ := rw_at h hx
    have gk : decide (0 < n) = true := by simp; omega
    have hw2 : IntKind.i64.wrap ((n : Int) - 1) = ((n - 1 : Nat) : Int) := by rw [show (n : Int) - 1 = ((n - 1 : Nat) : Int) by omega]; exact IntWalk.i64_in _ (by omega)
    have hj3 : ((n - 1 : Nat) : Int) < (n : Int) := by omega
    have HO : Hid (onB S = decide (x.to = -1)) := Lib.hid (by unfold onB; rw [hl])
    clear h hx hl e0 e1
    obtain ⟨j, hj⟩ : ∃ j, n - 1 = j := ⟨_, rfl⟩
    rw [hj] at hw2 hj3 e2
    clear hj
    by_cases ht : x.to = -1
    · have te : (x.to == -1) = true := by simp [ht]
      have HE : Hid (onB S = true) := Lib.hid (by rw [HO.out]; simp [ht])
      clear ht HO
      go_enter Try.func66, Try.ntmps66
      go_wp2
      go_ret
      exact ⟨by rw [HE.out]; rfl, rfl⟩
    · have te : (x.to == -1) = false := by simp [ht]
      have HE : Hid (onB S = false) := Lib.hid (by rw [HO.out]; simp [ht])
      clear ht HO
      go_enter Try.func66, Try.ntmps66
      go_wp2
      go_ret
      exact ⟨by rw [HE.out]; rfl, rfl⟩
  · obtain rfl : n = 0 := by omega
    have hS := List.eq_nil_of_length_eq_zero h.1
    subst hS
    clear h
    go_enter Try.func66, Try.ntmps66
    go_wp2
    go_ret
    exact ⟨rfl, rfl⟩
/-- May something be done now with stays that may be? -/
def mayB (S : List Sy) (now : Int) : Bool := match S.getLast? with | none => decide (0 ≤ now) | some s => if s.to = -1 then decide (s.frm ≤ now) else decide (now = s.to)
theorem may_B {S : List Sy} {now : Int} (h : Right S) : mayB S now = true ↔ May S now := by
  rcases ends_of S with rfl | ⟨A, s, rfl⟩
  · constructor
    · intro hb
      exact ⟨h, by simpa [mayB] using hb, fun s hs => by cases hs⟩
    · intro hm
      have := hm.2.1
      simpa [mayB] using this
  · unfold mayB
    rw [List.getLast?_concat]
    simp only
    obtain ⟨h1, h2, h3, h4, h5⟩ := right_snoc.1 h
    constructor
    · intro hb
      by_cases hc : s.to = -1
      · rw [if_pos hc, decide_eq_true_eq] at hb
        refine ⟨h, by omega, fun x hx => ?_⟩
        rw [List.getLast?_concat] at hx
        rw [← Option.some.inj hx]
        exact .inl ⟨hc, hb⟩
      · rw [if_neg hc, decide_eq_true_eq] at hb
        refine ⟨h, by omega, fun x hx => ?_⟩
        rw [List.getLast?_concat] at hx
        rw [← Option.some.inj hx]
        exact .inr hb.symm
    · intro hm
      rcases may_last hm with ⟨e, hf⟩ | e
      · rw [if_pos e, decide_eq_true_eq]
        exact hf
      · have := hm.2.1
        rw [if_neg (by omega), decide_eq_true_eq]
        exact e.symm
theorem may_no {S : List Sy} {now : Int} (h : Right S) (hm : ¬ May S now) : mayB S now = false := by
  cases hb : mayB S now
  · rfl
  · exact absurd ((may_B h).1 hb) hm
set_option maxRecDepth 100000 in
set_option maxHeartbeats 8000000 in
theorem pmay_any (p : Option Addr) (n c : Nat) (S : List Sy) (now : Int) (w : World) (h : Rw 3 scells w p n S) (hn : n ≤ 1000000) :
    Calls Try.prog 58 #[.slice p n c, .int .i64 now] w fun e w' => e = .returned (.bool (mayB S now)) ∧ w = w' := by
  have hn' : (n : Int) ≤ 1000000 := by omega
  rcases Nat.lt_or_ge 0 n with h0 | h0
  · obtain ⟨x, hx, hl⟩ := last_at h.1 h0
    have CO := Lib.hid (fun W (hW : Rw 3 scells W p n S) => pon_any p n c S W hW hn)
    have HR := Lib.hid h
    obtain ⟨b, o, rfl, e0, e1, e2⟩ := rw_at h hx
    have hne : ((n : Int) == 0) = false := by simp; omega
    have hw2 : IntKind.i64.wrap ((n : Int) - 1) = ((n - 1 : Nat) : Int) := by rw [show (n : Int) - 1 = ((n - 1 : Nat) : Int) by omega]; exact IntWalk.i64_in _ (by omega)
    have hw3 : (n : Int) - 1 = ((n - 1 : Nat) : Int) := by omega
    have hj3 : ((n - 1 : Nat) : Int) < (n : Int) := by omega
    have HO : Hid (onB S = decide (x.to = -1)) := Lib.hid (by unfold onB; rw [hl])
    have HM : Hid (mayB S now = if x.to = -1 then decide (x.frm ≤ now) else decide (now = x.to)) := Lib.hid (by unfold mayB; rw [hl])
    clear h hx hl e0
    obtain ⟨j, hj⟩ : ∃ j, n - 1 = j := ⟨_, rfl⟩
    rw [hj] at hw2 hw3 hj3 e2 e1
    clear hj
    by_cases ht : x.to = -1
    · have HE : Hid (onB S = true) := Lib.hid (by rw [HO.out]; simp [ht])
      have HF : Hid (mayB S now = decide (x.frm ≤ now)) := Lib.hid (by rw [HM.out, if_pos ht])
      rw [HF.out]
      clear ht HO HM
      go_enter Try.func58, Try.ntmps58
      go_wp2_with fail
      refine (CO.out _ HR.out).mono ?_
      rintro e w1 ⟨rfl, rfl⟩
      rw [HE.out]
      clear CO HR HE HF
      go_wp2
      go_ret
      exact ⟨by simp, rfl⟩
    · have HE : Hid (onB S = false) := Lib.hid (by rw [HO.out]; simp [ht])
      have HF : Hid (mayB S now = decide (now = x.to)) := Lib.hid (by rw [HM.out, if_neg ht])
      rw [HF.out]
      clear ht HO HM
      go_enter Try.func58, Try.ntmps58
      go_wp2_with fail
      refine (CO.out _ HR.out).mono ?_
      rintro e w1 ⟨rfl, rfl⟩
      rw [HE.out]
      clear CO HR HE HF
      go_wp2
      go_ret
      exact ⟨by simp; rw [Bool.eq_iff_iff]; simp, rfl⟩
  · obtain rfl : n = 0 := by omega
    have hS := List.eq_nil_of_length_eq_zero h.1
    subst hS
    clear h
    go_enter Try.func58, Try.ntmps58
    go_wp2
    go_ret
    exact ⟨by simp [mayB], rfl⟩
end Sy
end Go.Proofs.Ytkfmkchonlajpaa

namespace Go.Proofs.Ytkfmkchonlajpaa
open Go.RowKit

namespace Sy
/-- Which one has a minute. -/
def Placed (S : List Sy) (m r : Int) : Prop := (r = -1 ∧ S.find? (has m) = none) ∨ ∃ (k : Nat) (x : Sy), r = k ∧ S[k]? = some x ∧ S.find? (has m) = some x
def PlaceEnd (S : List Sy) (m : Int) (w : World) (e : Ending) (w' : World) : Prop := ∃ r : Int, Placed S m r ∧ e = .returned (.int .i64 r) ∧ Below w.heap.size w w'
/-- None of the first ones has it. -/
def Nones (S : List Sy) (m : Int) (k : Nat) : Prop := ∀ i s, i < k → S[i]? = some s → has m s = false
theorem find_at {S : List Sy} {m : Int} {k : Nat} {x : Sy} (h : Nones S m k) (hx : S[k]? = some x) (hh : has m x = true) : S.find? (has m) = some x := by
  have hk := (List.getElem?_eq_some_iff.1 hx)
  obtain ⟨hlt, e⟩ := hk
  rw [List.find?_eq_some_iff_append]
  refine ⟨hh, S.take k, S.drop (k + 1), ?_, fun a ha => ?_⟩
  · rw [← e, ← List.drop_eq_getElem_cons hlt, List.take_append_drop]
  · obtain ⟨i, hi⟩ := List.mem_iff_getElem?.1 ha
    have hik : i < k := by
      have := (List.getElem?_eq_some_iff.1 hi).1
      rw [List.length_take] at this
      omega
    rw [List.getElem?_take_of_lt hik] at hi
    simp [h i a hik hi]
theorem find_no {S : List Sy} {m : Int} (h : Nones S m S.length) : S.find? (has m) = none := by
  rw [List.find?_eq_none]
  intro s hs
  obtain ⟨i, hi⟩ := List.mem_iff_getElem?.1 hs
  simp [h i s (List.getElem?_eq_some_iff.1 hi).1 hi]
theorem nones_next {S : List Sy} {m : Int} {k : Nat} {x : Sy} (h : Nones S m k) (hx : S[k]? = some x) (hh : has m x = false) : Nones S m (k + 1) := fun i s hi hs => by
  by_cases hlt : i < k
  · exact h i s hlt hs
  · obtain rfl : i = k := by omega
    rw [hx] at hs
    rw [← Option.some.inj hs]
    exact hh
theorem has_no {m : Int} {s : Sy} (h : ¬ (s.frm ≤ m ∧ (s.to = -1 ∨ m < s.to))) : has m s = false := by
  cases hb : has m s
  · rfl
  · exact absurd (has_iff.1 hb) h
theorem nones_rest {S : List Sy} (hR : Right S) {m : Int} {k : Nat} {x : Sy} (h : Nones S m k) (hx : S[k]? = some x) (hm : m < x.frm) : Nones S m S.length := fun i s _ hs => by
  by_cases hlt : i < k
  · exact h i s hlt hs
  · have := rights_le hR hx (i - k) s (by rw [show k + (i - k) = i by omega]; exact hs)
    exact has_no (fun hh => by omega)
end Sy
end Go.Proofs.Ytkfmkchonlajpaa
