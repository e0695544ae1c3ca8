/- Layer 12's masters: package master's, and the document's one. Condition: the contracts of package master. A package stock and the document's one that hold the same: what can be asked of both. Condition: the contracts of package stock. Zones, products, stays, lots, acts that came in. No condition but those written. -/
import Derived.Test.YtkfmkchonlajpaaGreatQ09
import Derived.Test.YtkfmkchonlajpaaGreatQ08
import Derived.Test.YtkfmkchonlajpaaGreatQ01
namespace Go.Proofs.YtkfmkchonlajpaaGreat
open Go.RowKit

namespace Lo
set_option maxRecDepth 100000 in
set_option maxHeartbeats 16000000 in
theorem masters_any (I : Ms.Face) (p : Option Addr) (n c : Nat) (q : Option Addr) (m d : Nat) (L : List Ms.Zn) (M : List Ms.Pd) (w : World) (hn : n ≤ 60) (hm : m ≤ 60) (hL : Rw 6 Ms.zcells w p n L) (hM : Rw 3 Ms.pcells w q m M) :
    Calls Tryz.prog 5 #[.slice p n c, .slice q m d] w fun e w' => ∃ h g, e = .returned (.tuple #[.pointer (some ⟨h, 0, none⟩), .pointer (some ⟨g, 0, none⟩)]) ∧ Ms.Both I w w' h g (Ms.runZ L) (Ms.runP M) (Ms.runZ L) (Ms.runP M) := by
  have HL := Lib.hid hL
  have HM := Lib.hid hM
  have hn' : (n : Int) ≤ 60 := by omega
  have hm' : (m : Int) ≤ 60 := by omega
  clear hL hM
  go_enter Tryz.func5, Tryz.ntmps5
  go_wp2_with fail
  refine (I.new _).mono ?_
  rintro e w1 ⟨h, F, rfl, hd, hb⟩
  have S0 := Lib.hid (Ms.both_start hd hb)
  clear hd hb
  generalize hg : w1.heap.size = g at S0
  go_wp2_with fail
  clear hg
  go_loopw [8] (fun i wr => ∃ k : Nat, k ≤ n ∧ i = .int .i64 k ∧ Hid (Ms.Both I w wr h g (Ms.runZ (L.take k)) [] (Ms.runZ (L.take k)) [])) (fun i _ => n - (RowKit.intOf i).toNat)
  case atStart => exact ⟨0, Nat.zero_le _, rfl, S0⟩
  case round =>
    obtain ⟨k, hk, rfl, SB⟩ := hrel
    clear S0
    have HLn := Lib.hid HL.out.1
    have KL := Lib.hid (show (Ms.runZ (L.take k)).length ≤ 60 from Nat.le_trans (Ms.runZ_len _) (by have := HL.out.1; simp; omega))
    by_cases hlt : k < n
    · have hk3 : (k : Int) < (n : Int) := by omega
      obtain ⟨b2, o, hp, hc⟩ := HL.out.2 (by omega)
      obtain ⟨y, hy⟩ : ∃ y, L[k]? = some y := ⟨_, List.getElem?_eq_getElem (by rw [HLn.out]; exact hlt)⟩
      subst hp
      have EC := Lib.hid (fun (W : World) (hW : Below w.heap.size w W) => ((HL.out.keep Ms.zcells_len hW).2 (by omega)))
      have EC2 := Lib.hid (fun (W : World) (hW : Below w.heap.size w W) i (hi : i < 6) => show W.cell? ⟨b2, o + k * 6 + i, none⟩ = (Ms.zcells y)[i]? by
        obtain ⟨b3, o3, e3, hc3⟩ := EC.out W hW
        injection e3 with e3
        injection e3 with e4 e5
        subst e4 e5
        exact hc3 k y hy i hi)
      have TK := Lib.hid (show Ms.runZ (L.take (k + 1)) = (Ms.addZ (Ms.runZ (L.take k)) y).2 by rw [Ms.takeZ hy, Ms.runZ_snoc])
      clear hc hy EC HL
      have GZ := Lib.hid (Ms.runZ_good (L.take k))
      generalize Ms.runZ (L.take k) = S at *
      have C1 := Lib.hid (fun W (hs : Ms.Both I w W h g S [] S []) => Ms.both_Z1 hs GZ.out (by have := KL.out; omega) y)
      have C2 := Lib.hid (fun W (hs : Ms.Both I w W h g (Ms.addZ S y).2 [] S []) => Ms.both_Z2 hs (by have := KL.out; omega) y)
      have SN := Lib.hid (fun W (hs : Ms.Both I w W h g (Ms.addZ S y).2 [] (Ms.addZ S y).2 []) => show Ms.Both I w W h g (Ms.runZ (L.take (k + 1))) [] (Ms.runZ (L.take (k + 1))) [] by rw [TK.out]; exact hs)
      clear TK GZ KL
      generalize (Ms.addZ S y).2 = S2 at *
      generalize (Ms.addZ S y).1 = er at *
      obtain ⟨a, b, c1, d1, e, f⟩ := y
      unfold Ms.zval at C1 C2
      simp only at C1 C2
      have hu := Lib.hid (Ms.both_under SB.out)
      have xe0 : wr.cell? ⟨b2, o + k * 6, none⟩ = some (.int .i64 a) := EC2.out wr hu.out 0 (by decide)
      have xe1 : wr.cell? ⟨b2, o + k * 6 + 1, none⟩ = some (.int .i64 b) := EC2.out wr hu.out 1 (by decide)
      have xe2 : wr.cell? ⟨b2, o + k * 6 + 2, none⟩ = some (.int .i64 c1) := EC2.out wr hu.out 2 (by decide)
      have xe3 : wr.cell? ⟨b2, o + k * 6 + 3, none⟩ = some (.int .i64 d1) := EC2.out wr hu.out 3 (by decide)
      have xe4 : wr.cell? ⟨b2, o + k * 6 + 4, none⟩ = some (.bool e) := EC2.out wr hu.out 4 (by decide)
      have xe5 : wr.cell? ⟨b2, o + k * 6 + 5, none⟩ = some (.int .i64 f) := EC2.out wr hu.out 5 (by decide)
      go_wp2_with fail
      refine (C1.out _ SB.out).mono ?_
      rintro E w3 ⟨rfl, hs3⟩
      have S3 := Lib.hid hs3
      have U3 := Lib.hid (Ms.both_under hs3)
      clear hs3 hu SB C1 xe0 xe1 xe2 xe3 xe4 xe5
      have xd0 : w3.cell? ⟨b2, o + k * 6, none⟩ = some (.int .i64 a) := EC2.out w3 U3.out 0 (by decide)
      have xd1 : w3.cell? ⟨b2, o + k * 6 + 1, none⟩ = some (.int .i64 b) := EC2.out w3 U3.out 1 (by decide)
      have xd2 : w3.cell? ⟨b2, o + k * 6 + 2, none⟩ = some (.int .i64 c1) := EC2.out w3 U3.out 2 (by decide)
      have xd3 : w3.cell? ⟨b2, o + k * 6 + 3, none⟩ = some (.int .i64 d1) := EC2.out w3 U3.out 3 (by decide)
      have xd4 : w3.cell? ⟨b2, o + k * 6 + 4, none⟩ = some (.bool e) := EC2.out w3 U3.out 4 (by decide)
      have xd5 : w3.cell? ⟨b2, o + k * 6 + 5, none⟩ = some (.int .i64 f) := EC2.out w3 U3.out 5 (by decide)
      go_wp2_with fail
      refine (C2.out _ S3.out).mono ?_
      rintro E w4 ⟨rfl, hs4⟩
      have S5 := Lib.hid (SN.out _ hs4)
      clear hs4 S3 U3 C2 SN EC2 xd0 xd1 xd2 xd3 xd4 xd5
      go_wp2
      go_roundw
      case rel => exact ⟨k + 1, by omega, by go_num, S5⟩
      case measure => simp [RowKit.intOf]; omega
    · obtain rfl : k = n := by omega
      have SB2 : Ms.Both I w wr h g (Ms.runZ L) [] (Ms.runZ L) [] := by
        have hh := SB.out
        rwa [List.take_of_length_le (by rw [HLn.out]; exact Nat.le_refl _)] at hh
      have SB0 := Lib.hid SB2
      clear SB SB2 KL HL HLn hlt hk
      obtain ⟨Z, hZ⟩ : ∃ Z, Ms.runZ L = Z := ⟨_, rfl⟩
      rw [hZ] at SB0
      have HZ := Lib.hid hZ
      clear hZ
      go_wp2_with fail
      go_loopw [9] (fun i wr => ∃ j : Nat, j ≤ m ∧ i = .int .i64 j ∧ Hid (Ms.Both I w wr h g Z (Ms.runP (M.take j)) Z (Ms.runP (M.take j)))) (fun i _ => m - (RowKit.intOf i).toNat)
      case atStart => exact ⟨0, Nat.zero_le _, rfl, SB0⟩
      case round =>
        obtain ⟨j, hk, rfl, SB⟩ := hrel
        clear SB0
        have HLn := Lib.hid HM.out.1
        have KL := Lib.hid (show (Ms.runP (M.take j)).length ≤ 60 from Nat.le_trans (Ms.runP_len _) (by have := HM.out.1; simp; omega))
        by_cases hlt : j < m
        · have hk3 : (j : Int) < (m : Int) := by omega
          obtain ⟨b2, o, hp, hc⟩ := HM.out.2 (by omega)
          obtain ⟨y, hy⟩ : ∃ y, M[j]? = some y := ⟨_, List.getElem?_eq_getElem (by rw [HLn.out]; exact hlt)⟩
          subst hp
          have EC := Lib.hid (fun (W : World) (hW : Below w.heap.size w W) => ((HM.out.keep Ms.pcells_len hW).2 (by omega)))
          have EC2 := Lib.hid (fun (W : World) (hW : Below w.heap.size w W) i (hi : i < 3) => show W.cell? ⟨b2, o + j * 3 + i, none⟩ = (Ms.pcells y)[i]? by
            obtain ⟨b3, o3, e3, hc3⟩ := EC.out W hW
            injection e3 with e3
            injection e3 with e4 e5
            subst e4 e5
            exact hc3 j y hy i hi)
          have TK := Lib.hid (show Ms.runP (M.take (j + 1)) = (Ms.addP (Ms.runP (M.take j)) y).2 by rw [Ms.takeZ hy, Ms.runP_snoc])
          clear hc hy EC HM
          have GZ := Lib.hid (Ms.runP_good (M.take j))
          generalize Ms.runP (M.take j) = S at *
          have C1 := Lib.hid (fun W (hs : Ms.Both I w W h g Z S Z S) => Ms.both_P1 hs GZ.out (by have := KL.out; omega) y)
          have C2 := Lib.hid (fun W (hs : Ms.Both I w W h g Z (Ms.addP S y).2 Z S) => Ms.both_P2 hs (by have := KL.out; omega) y)
          have SN := Lib.hid (fun W (hs : Ms.Both I w W h g Z (Ms.addP S y).2 Z (Ms.addP S y).2) => show Ms.Both I w W h g Z (Ms.runP (M.take (j + 1))) Z (Ms.runP (M.take (j + 1))) by rw [TK.out]; exact hs)
          clear TK GZ KL
          generalize (Ms.addP S y).2 = S2 at *
          generalize (Ms.addP S y).1 = er at *
          obtain ⟨a, b, c1⟩ := y
          unfold Ms.pval at C1 C2
          simp only at C1 C2
          have hu := Lib.hid (Ms.both_under SB.out)
          have xe0 : wr.cell? ⟨b2, o + j * 3, none⟩ = some (.int .i64 a) := EC2.out wr hu.out 0 (by decide)
          have xe1 : wr.cell? ⟨b2, o + j * 3 + 1, none⟩ = some (.int .i64 b) := EC2.out wr hu.out 1 (by decide)
          have xe2 : wr.cell? ⟨b2, o + j * 3 + 2, none⟩ = some (.int .i64 c1) := EC2.out wr hu.out 2 (by decide)
          go_wp2_with fail
          refine (C1.out _ SB.out).mono ?_
          rintro E w3 ⟨rfl, hs3⟩
          have S3 := Lib.hid hs3
          have U3 := Lib.hid (Ms.both_under hs3)
          clear hs3 hu SB C1 xe0 xe1 xe2
          have xd0 : w3.cell? ⟨b2, o + j * 3, none⟩ = some (.int .i64 a) := EC2.out w3 U3.out 0 (by decide)
          have xd1 : w3.cell? ⟨b2, o + j * 3 + 1, none⟩ = some (.int .i64 b) := EC2.out w3 U3.out 1 (by decide)
          have xd2 : w3.cell? ⟨b2, o + j * 3 + 2, none⟩ = some (.int .i64 c1) := EC2.out w3 U3.out 2 (by decide)
          go_wp2_with fail
          refine (C2.out _ S3.out).mono ?_
          rintro E w4 ⟨rfl, hs4⟩
          have S5 := Lib.hid (SN.out _ hs4)
          clear hs4 S3 U3 C2 SN EC2 xd0 xd1 xd2
          go_wp2
          go_roundw
          case rel => exact ⟨j + 1, by omega, by go_num, S5⟩
          case measure => simp [RowKit.intOf]; omega
        · obtain rfl : j = m := by omega
          have SB2 : Ms.Both I w wr h g Z (Ms.runP M) Z (Ms.runP M) := by
            have hh := SB.out
            rwa [List.take_of_length_le (by rw [HLn.out]; exact Nat.le_refl _)] at hh
          have S9 := Lib.hid SB2
          clear SB SB2 KL HM HLn hlt hk
          go_wp2
          go_ret2
          exact ⟨h, g, rfl, by rw [HZ.out]; exact S9.out⟩
end Lo
end Go.Proofs.YtkfmkchonlajpaaGreat

namespace Go.Proofs.YtkfmkchonlajpaaGreat
open Go.RowKit

namespace Lo
/-- Two stocks that hold the same. -/
structure TwoAt {M : Ms.Face} (I : Face M) (bs Bg : Nat) (W : World) (h g : Nat) (F : Nat → Prop) (v : Value) (l : List Lv) (s : Stk) (m : Nat) : Prop where
  st : I.DB W bs h F s
  rs : RS W Bg g v s.2 l
  eq : lts l = s.1
  good : GoodM s m
section
variable {M : Ms.Face} {I : Face M} {X : Nat → Prop} {base bs Bg : Nat} {w W : World} {h hm g gm : Nat} {s : Stk} {m m2 : Nat} {Z : List Ms.Zn} {P : List Ms.Pd} {F : Nat → Prop} {v : Value} {l : List Lv}
theorem four_two (p : Four I X base w W h hm g gm s s m m2 Z P) : ∃ bs Bg F v l, TwoAt I bs Bg W h g F v l s m := by
  obtain ⟨bs, bm, Bg, Bm, F, Fm, v, vz, vp, l, q⟩ := p
  exact ⟨bs, Bg, F, v, l, q.pk.st, q.rs, q.eq, q.pk.good⟩
theorem TwoAt.keep (p : TwoAt I bs Bg W h g F v l s m) {w' : World} (hb : Below W.heap.size W w') : TwoAt I bs Bg w' h g F v l s m := ⟨I.keep p.st hb, p.rs.keep hb, p.eq, p.good⟩
theorem TwoAt.len (p : TwoAt I bs Bg W h g F v l s m) : l.length = s.1.length := by rw [← p.eq, lts, List.length_map]
theorem TwoAt.gl (p : TwoAt I bs Bg W h g F v l s m) : Good (lts l, s.2) := by rw [p.eq]; exact p.good.1
theorem TwoAt.small (p : TwoAt I bs Bg W h g F v l s m) : s.1.length ≤ 256 := good_len p.good.1
/-- Package stock's lots. -/
theorem eye_lots (p : TwoAt I bs Bg W h g F v l s m) {n : Nat} (hn : s.1.length = n) {W' : World} (hb : Below W.heap.size W W') :
    Calls Tryz.prog 10 #[.pointer (some ⟨h, 0, none⟩)] W' fun e w' => ∃ q c L, lts L = s.1 ∧ e = .returned (.slice q n c) ∧ Ll w' q n L ∧ Below W'.heap.size W' w' := by
  subst hn
  refine (I.lots bs h F s W' (I.keep p.st hb) p.good.1).mono fun e w' hh => ?_
  obtain ⟨q, c, L, h1, h2, _, _, h5, h6, h7⟩ := lots_end hh
  have hL : L.length = s.1.length := by rw [← h1, lts, List.length_map]
  exact ⟨q, c, L, h1, h2, ⟨by rw [← hL]; exact h5, fun y hy => (h6 y hy).1⟩, h7⟩
/-- The document's lots, its greatest number. -/
theorem eye_list (p : TwoAt I bs Bg W h g F v l s m) {n : Nat} (hn : s.1.length = n) : ∃ q c, ∀ W', Below W.heap.size W W' → W'.cell? ⟨g, 0, none⟩ = some (.slice q n c) ∧ W'.cell? ⟨g, 1, none⟩ = some (.int .i64 s.2) ∧ Ll W' q n l := by
  obtain ⟨q, c, hv, hc, hl⟩ := rs_list p.rs
  rw [p.len, hn] at hv hl
  subst hv
  exact ⟨q, c, fun W' hb => ⟨(p.rs.keep hb).blk.cell 0, (p.rs.keep hb).blk.cell 1, hl.keep hb⟩⟩
theorem lots_short {L : List Lv} {W' : World} (hg : GoodM s m) (he : lts L = s.1) {q : Option Addr} {n : Nat} (hl : Ll W' q n L) : ∀ y ∈ L, y.n ≤ 1000000 := fun y hy => by
  have h1 : y.x ∈ s.1 := by rw [← he]; exact List.mem_map_of_mem hy
  have h2 := hg.1.long _ h1
  have h3 := (hl.2 y hy).len
  omega
theorem eye_same (p : TwoAt I bs Bg W h g F v l s m) {n : Nat} (hn : s.1.length = n) {W' : World} {q1 q2 : Option Addr} {c1 c2 : Nat} {L1 L2 : List Lv} (e1 : lts L1 = s.1) (e2 : lts L2 = s.1) (h1 : Ll W' q1 n L1) (h2 : Ll W' q2 n L2) :
    Calls Tryz.prog 9 #[.slice q1 n c1, .slice q2 n c2] W' fun e w' => e = .returned (.bool true) ∧ Below W'.heap.size W' w' := by
  have := rsame_any q1 q2 n n c1 c2 L1 L2 W' h1 h2 (by have := p.small; omega) (lots_short p.good e1 h1)
  rw [e1, e2, decide_eq_true rfl] at this
  exact this
theorem lotS_short (hg : GoodM s m) {id : Int} {x : Lt} {c : Nat} (e : lotS s id = (x, c)) : x.stays.length ≤ 100000 := by
  unfold lotS at e
  split at e
  · split at e
    · rename_i y hy
      obtain ⟨rfl, _⟩ := Prod.mk.inj e
      exact hg.1.long _ (List.mem_of_getElem? hy)
    · obtain ⟨rfl, _⟩ := Prod.mk.inj e
      simp [lt0]
  · obtain ⟨rfl, _⟩ := Prod.mk.inj e
    simp [lt0]
theorem eye_lot1 (p : TwoAt I bs Bg W h g F v l s m) {id : Int} (hi : I64 id) {x : Lt} {c : Nat} (e : lotS s id = (x, c)) {W' : World} (hb : Below W.heap.size W W') :
    Calls Tryz.prog 11 #[.pointer (some ⟨h, 0, none⟩), .int .i64 id] W' fun en w' => ∃ q n d, en = .returned (.tuple #[lval ⟨x, q, n, d⟩, .int .i64 (c : Nat)]) ∧ St w' ⟨x, q, n, d⟩ ∧ Below W'.heap.size W' w' := by
  have := I.lot bs h F s id W' (I.keep p.st hb) p.good.1 hi
  rw [e] at this
  refine this.mono fun en w' hh => ?_
  obtain ⟨⟨x', q, n, d⟩, rfl, he, hs, _, hw⟩ := hh
  exact ⟨q, n, d, he, hs, hw⟩
theorem eye_lot2 (p : TwoAt I bs Bg W h g F v l s m) (id : Int) {x : Lt} {c : Nat} (e : lotS s id = (x, c)) {W' : World} (hb : Below W.heap.size W W') :
    Calls Tryz.prog 12 #[.pointer (some ⟨g, 0, none⟩), .int .i64 id] W' fun en w' => ∃ q n d, en = .returned (.tuple #[lval ⟨x, q, n, d⟩, .int .i64 (c : Nat)]) ∧ St w' ⟨x, q, n, d⟩ ∧ Below W'.heap.size W' w' := by
  have hs := lot_say id l s.2
  rw [p.eq, show lotS (s.1, s.2) id = lotS s id from rfl, e] at hs
  obtain ⟨h1, h2⟩ := Prod.mk.inj hs
  have hr := p.rs.keep hb
  have hst := lot_st hr id
  refine (rlot_any Bg g v s.2 l id W' hr (by have := p.len; have := p.small; omega)).mono fun en w' ⟨he, hw⟩ => ?_
  rw [h2] at he
  generalize (lotV id l).1 = y at *
  obtain ⟨x', q, n, d⟩ := y
  obtain rfl : x' = x := h1
  exact ⟨q, n, d, he, hst.keep hw, hw⟩
theorem eye_one (hg : GoodM s m) {id : Int} {x : Lt} {c : Nat} (e : lotS s id = (x, c)) {q1 q2 : Option Addr} {n1 n2 d1 d2 : Nat} {W' : World} (h1 : St W' ⟨x, q1, n1, d1⟩) (h2 : St W' ⟨x, q2, n2, d2⟩) :
    Calls Tryz.prog 13 #[lval ⟨x, q1, n1, d1⟩, lval ⟨x, q2, n2, d2⟩] W' fun en w' => en = .returned (.bool true) ∧ Below W'.heap.size W' w' := by
  have hl := lotS_short hg e
  have h3 := h1.len
  have := rone_any ⟨x, q1, n1, d1⟩ ⟨x, q2, n2, d2⟩ W' h1 h2 (by have h4 : x.stays.length = n1 := h3; show n1 ≤ _; omega)
  rw [decide_eq_true rfl] at this
  exact this
theorem eye_given (p : TwoAt I bs Bg W h g F v l s m) {W' : World} (hb : Below W.heap.size W W') : Calls Tryz.prog 14 #[.pointer (some ⟨h, 0, none⟩)] W' fun e w' => e = .returned (.int .i64 s.2) ∧ Below W'.heap.size W' w' := I.given bs h F s W' (I.keep p.st hb)
theorem eye_load1 (p : TwoAt I bs Bg W h g F v l s m) {z : Int} (hz : I64 z) {W' : World} (hb : Below W.heap.size W W') : Calls Tryz.prog 15 #[.pointer (some ⟨h, 0, none⟩), .int .i64 z] W' fun e w' => e = .returned (.int .i64 (loadL s.1 z)) ∧ Below W'.heap.size W' w' := I.load bs h F s z W' (I.keep p.st hb) p.good.1 hz
theorem eye_load2 (p : TwoAt I bs Bg W h g F v l s m) (z : Int) {W' : World} (hb : Below W.heap.size W W') : Calls Tryz.prog 16 #[.pointer (some ⟨g, 0, none⟩), .int .i64 z] W' fun e w' => e = .returned (.int .i64 (loadL s.1 z)) ∧ Below W'.heap.size W' w' := by
  have := rload_any Bg g v s.2 l z W' (p.rs.keep hb) p.gl
  rw [p.eq] at this
  exact this
/-- Two masters that hold the same, and two new stocks. -/
theorem four_start {w1 w2 : World} (hB : Ms.Both M w w1 hm gm Z P Z P) (hd : I.DB w2 w1.heap.size h F ([], 0)) (hb : Below w1.heap.size w1 w2) (gz : Ms.GoodZ Z) (gp : Ms.GoodP P) (lz : Z.length ≤ 1000) (lp : P.length ≤ 1000) :
    Four I (fun _ => False) w.heap.size w (w2.alloc (.cells #[.slice none 0 0, .int .i64 0] 37)) h hm w2.heap.size gm ([], 0) ([], 0) 0 0 Z P := by
  obtain ⟨Fm, Bm, vz, vp, h1, h2, h3, h4, h5⟩ := hB
  have ha := alloc_below w2 (.cells #[.slice none 0 0, .int .i64 0] 37)
  have hs1 := h5.size
  have hs2 := hb.size
  refine ⟨w1.heap.size, w.heap.size, w2.heap.size, Bm, F, Fm, .slice none 0 0, vz, vp, [], (pair_new (I := I) h2 h5 hs1 hd hb gz gp lz lp).keep ha, (h3.keep hb).keep ha, ⟨Nat.le_refl _, Lies.new w2 _ _, World.ownsRow_nil _ _ _ _, fun y hy => by simp at hy, fun y hy => by simp at hy⟩, rfl, goodM_nil, fun k hk => ⟨fun e => ?_, fun e => ?_⟩, fun k hk e => ?_, fun k hk e => ?_, by omega, fun k hk => hk.elim⟩
  · have a1 := (I.foot hd hk).1
    have a2 := mf_lt h3 e
    omega
  · have a1 := (I.foot hd hk).2
    rcases e with (rfl | e) | ⟨y, hy, _⟩
    · omega
    · simp [Value.ownBlock] at e
    · simp at hy
  · have a1 := (M.foot h2 hk).2
    rcases e with rfl | e
    · omega
    · simp [Value.ownBlock] at e
  · have a1 := mf_lt h3 hk
    rcases e with rfl | e
    · omega
    · simp [Value.ownBlock] at e
/-- What a call has told, kept in a block of its own. -/
theorem four_kept {s2 : Stk} (p : Four I (fun _ => False) base w W h hm g gm s s2 m m2 Z P) (t : TypeId) (cs : Array Value) : Four I (fun k => k = W.heap.size) base w (W.alloc (.cells cs t)) h hm g gm s s2 m m2 Z P :=
  four_less (four_more p (alloc_below W _) (Nat.le_refl _) (Lies.new W t cs).lt) (fun _ hk => .inr hk)
end
/-- An act. -/
structure Ac where
  kd : Int
  a : Int
  b : Int
  c : Int
  d : Int
  on : Int
def acells (x : Ac) : List Value := [.int .u8 x.kd, .int .i64 x.a, .int .i64 x.b, .int .i64 x.c, .int .i64 x.d, .int .u8 x.on]
theorem acells_len (x : Ac) : (acells x).length = 6 := rfl
def Aok (x : Ac) : Prop := 0 ≤ x.kd ∧ x.kd ≤ 255 ∧ I64 x.a ∧ I64 x.b ∧ I64 x.c ∧ I64 x.d ∧ 0 ≤ x.on ∧ x.on ≤ 255
end Lo
end Go.Proofs.YtkfmkchonlajpaaGreat

namespace Go.Proofs.YtkfmkchonlajpaaGreat
open Go.RowKit Go.ChangeShapes Go.WideShapes

namespace Lo
def B63 (n : Nat) : Prop := n ≤ 9223372036854775807
theorem b63_zero : B63 0 := Nat.zero_le _
theorem b63_le {n c : Nat} (h : n ≤ c) (hc : c ≤ maxLen) : B63 n := by
  unfold maxLen at hc
  unfold B63
  omega
set_option maxRecDepth 100000 in
theorem rowsZ_of {H : Type} {enc : TypeId × Value → H} {w : World} {base : Nat} {spare : Nat → Bool} {held : Bool} {fuel : Nat} {cs : List Value} {y : DataW H × List MemPlace}
    (h : DataW.trod enc Tryz.prog w base spare held fuel 22 cs = some y) : ∃ p len cap, cs = [.slice p len cap] ∧ len ≤ cap ∧ B63 len ∧ ∃ l, Rw 6 Ms.zcells w p len l ∧ ∀ x ∈ l, (fun _ => True) x := by
  rcases open_parts Tryz.underlying22 Tryz.underlying61 (m := 6) (by kernel_rfl) h with h0 | ⟨a, len, cap, hcs, hl, hm, hp⟩
  · exact ⟨none, 0, 0, h0, Nat.le_refl _, b63_zero, [], rw_nil w, fun x hx => by simp at hx⟩
  · refine ⟨some a, len, cap, hcs, hl, b63_le hl hm, ?_⟩
    clear hm
    obtain ⟨b, o, spot⟩ := a
    have hs : 0 < len → spot = none := by
      intro h0
      obtain ⟨part, n, hlen, hc, _⟩ := hp 0 h0
      match part, hlen with
      | [v0, v1, v2, v3, v4, v5], _ =>
        have k0 := hc 0 (by decide)
        simpa [Addr.add] using World.cell?_spot k0
    by_cases h0 : 0 < len
    case neg =>
      obtain rfl : len = 0 := by omega
      exact ⟨[], rw_zero w _, fun x hx => by simp at hx⟩
    obtain rfl := hs h0
    have key : ∀ i, i < len → ∃ t : Ms.Zn, (∀ j, j < 6 → w.cell? ⟨b, o + i * 6 + j, none⟩ = (Ms.zcells t)[j]?) ∧ (fun _ => True) t := by
      intro i hi
      obtain ⟨part, n, hlen, hc, hf⟩ := hp i hi
      match part, hlen with
      | [v0, v1, v2, v3, v4, v5], _ =>
        obtain ⟨y0, f0⟩ := hf 0 _ rfl
        change DataW.trod enc Tryz.prog w base spare held n 3 (List.take (Tryz.prog.cellsOf 3) (List.drop 0 [v0, v1, v2, v3, v4, v5])) = some y0 at f0
        rw [show Tryz.prog.cellsOf 3 = 1 by kernel_rfl] at f0
        obtain ⟨m0, e0, _, g0⟩ := DataW.trod_int Tryz.underlying3 f0
        obtain ⟨y1, f1⟩ := hf 1 _ rfl
        change DataW.trod enc Tryz.prog w base spare held n 3 (List.take (Tryz.prog.cellsOf 3) (List.drop 1 [v0, v1, v2, v3, v4, v5])) = some y1 at f1
        rw [show Tryz.prog.cellsOf 3 = 1 by kernel_rfl] at f1
        obtain ⟨m1, e1, _, g1⟩ := DataW.trod_int Tryz.underlying3 f1
        obtain ⟨y2, f2⟩ := hf 2 _ rfl
        change DataW.trod enc Tryz.prog w base spare held n 3 (List.take (Tryz.prog.cellsOf 3) (List.drop 2 [v0, v1, v2, v3, v4, v5])) = some y2 at f2
        rw [show Tryz.prog.cellsOf 3 = 1 by kernel_rfl] at f2
        obtain ⟨m2, e2, _, g2⟩ := DataW.trod_int Tryz.underlying3 f2
        obtain ⟨y3, f3⟩ := hf 3 _ rfl
        change DataW.trod enc Tryz.prog w base spare held n 3 (List.take (Tryz.prog.cellsOf 3) (List.drop 3 [v0, v1, v2, v3, v4, v5])) = some y3 at f3
        rw [show Tryz.prog.cellsOf 3 = 1 by kernel_rfl] at f3
        obtain ⟨m3, e3, _, g3⟩ := DataW.trod_int Tryz.underlying3 f3
        obtain ⟨y4, f4⟩ := hf 4 _ rfl
        change DataW.trod enc Tryz.prog w base spare held n 4 (List.take (Tryz.prog.cellsOf 4) (List.drop 4 [v0, v1, v2, v3, v4, v5])) = some y4 at f4
        rw [show Tryz.prog.cellsOf 4 = 1 by kernel_rfl] at f4
        obtain ⟨m4, e4, _⟩ := DataW.trod_bool Tryz.underlying4 f4
        obtain ⟨y5, f5⟩ := hf 5 _ rfl
        change DataW.trod enc Tryz.prog w base spare held n 3 (List.take (Tryz.prog.cellsOf 3) (List.drop 5 [v0, v1, v2, v3, v4, v5])) = some y5 at f5
        rw [show Tryz.prog.cellsOf 3 = 1 by kernel_rfl] at f5
        obtain ⟨m5, e5, _, g5⟩ := DataW.trod_int Tryz.underlying3 f5
        simp only [List.drop_zero, List.drop_succ_cons, List.take_succ_cons, List.take_zero, List.cons.injEq, and_true] at e0 e1 e2 e3 e4 e5
        subst e0 e1 e2 e3 e4 e5
        refine ⟨⟨m0, m1, m2, m3, m4, m5⟩, fun j hj => ?_, trivial⟩
        have := hc j hj
        rw [add_none, ← Nat.add_assoc] at this
        exact this
    obtain ⟨l, hll, hlk⟩ := list_of (Ms.zn0 : Ms.Zn) (fun i t => (∀ j, j < 6 → w.cell? ⟨b, o + i * 6 + j, none⟩ = (Ms.zcells t)[j]?) ∧ (fun _ => True) t) len key
    refine ⟨l, ⟨hll, fun _ => ⟨b, o, rfl, fun j x hx i hi => ?_⟩⟩, fun x hx => ?_⟩
    case refine_2 =>
      obtain ⟨j, hj, e⟩ := List.mem_iff_getElem.1 hx
      have h2 := (hlk j (by omega)).2
      have h3 : l.getD j (Ms.zn0 : Ms.Zn) = x := by rw [List.getD_eq_getElem?_getD, List.getElem?_eq_getElem hj]; exact e
      rw [h3] at h2
      exact h2
    have hj := (List.getElem?_eq_some_iff.1 hx).1
    have := (hlk j (by omega)).1 i hi
    rw [List.getD_eq_getElem?_getD, hx] at this
    exact this
set_option maxRecDepth 100000 in
theorem rowsP_of {H : Type} {enc : TypeId × Value → H} {w : World} {base : Nat} {spare : Nat → Bool} {held : Bool} {fuel : Nat} {cs : List Value} {y : DataW H × List MemPlace}
    (h : DataW.trod enc Tryz.prog w base spare held fuel 23 cs = some y) : ∃ p len cap, cs = [.slice p len cap] ∧ len ≤ cap ∧ B63 len ∧ ∃ l, Rw 3 Ms.pcells w p len l ∧ ∀ x ∈ l, (fun _ => True) x := by
  rcases open_parts Tryz.underlying23 Tryz.underlying64 (m := 3) (by kernel_rfl) h with h0 | ⟨a, len, cap, hcs, hl, hm, hp⟩
  · exact ⟨none, 0, 0, h0, Nat.le_refl _, b63_zero, [], rw_nil w, fun x hx => by simp at hx⟩
  · refine ⟨some a, len, cap, hcs, hl, b63_le hl hm, ?_⟩
    clear hm
    obtain ⟨b, o, spot⟩ := a
    have hs : 0 < len → spot = none := by
      intro h0
      obtain ⟨part, n, hlen, hc, _⟩ := hp 0 h0
      match part, hlen with
      | [v0, v1, v2], _ =>
        have k0 := hc 0 (by decide)
        simpa [Addr.add] using World.cell?_spot k0
    by_cases h0 : 0 < len
    case neg =>
      obtain rfl : len = 0 := by omega
      exact ⟨[], rw_zero w _, fun x hx => by simp at hx⟩
    obtain rfl := hs h0
    have key : ∀ i, i < len → ∃ t : Ms.Pd, (∀ j, j < 3 → w.cell? ⟨b, o + i * 3 + j, none⟩ = (Ms.pcells t)[j]?) ∧ (fun _ => True) t := by
      intro i hi
      obtain ⟨part, n, hlen, hc, hf⟩ := hp i hi
      match part, hlen with
      | [v0, v1, v2], _ =>
        obtain ⟨y0, f0⟩ := hf 0 _ rfl
        change DataW.trod enc Tryz.prog w base spare held n 3 (List.take (Tryz.prog.cellsOf 3) (List.drop 0 [v0, v1, v2])) = some y0 at f0
        rw [show Tryz.prog.cellsOf 3 = 1 by kernel_rfl] at f0
        obtain ⟨m0, e0, _, g0⟩ := DataW.trod_int Tryz.underlying3 f0
        obtain ⟨y1, f1⟩ := hf 1 _ rfl
        change DataW.trod enc Tryz.prog w base spare held n 3 (List.take (Tryz.prog.cellsOf 3) (List.drop 1 [v0, v1, v2])) = some y1 at f1
        rw [show Tryz.prog.cellsOf 3 = 1 by kernel_rfl] at f1
        obtain ⟨m1, e1, _, g1⟩ := DataW.trod_int Tryz.underlying3 f1
        obtain ⟨y2, f2⟩ := hf 2 _ rfl
        change DataW.trod enc Tryz.prog w base spare held n 3 (List.take (Tryz.prog.cellsOf 3) (List.drop 2 [v0, v1, v2])) = some y2 at f2
        rw [show Tryz.prog.cellsOf 3 = 1 by kernel_rfl] at f2
        obtain ⟨m2, e2, _, g2⟩ := DataW.trod_int Tryz.underlying3 f2
        simp only [List.drop_zero, List.drop_succ_cons, List.take_succ_cons, List.take_zero, List.cons.injEq, and_true] at e0 e1 e2
        subst e0 e1 e2
        refine ⟨⟨m0, m1, m2⟩, fun j hj => ?_, trivial⟩
        have := hc j hj
        rw [add_none, ← Nat.add_assoc] at this
        exact this
    obtain ⟨l, hll, hlk⟩ := list_of (Ms.pd0 : Ms.Pd) (fun i t => (∀ j, j < 3 → w.cell? ⟨b, o + i * 3 + j, none⟩ = (Ms.pcells t)[j]?) ∧ (fun _ => True) t) len key
    refine ⟨l, ⟨hll, fun _ => ⟨b, o, rfl, fun j x hx i hi => ?_⟩⟩, fun x hx => ?_⟩
    case refine_2 =>
      obtain ⟨j, hj, e⟩ := List.mem_iff_getElem.1 hx
      have h2 := (hlk j (by omega)).2
      have h3 : l.getD j (Ms.pd0 : Ms.Pd) = x := by rw [List.getD_eq_getElem?_getD, List.getElem?_eq_getElem hj]; exact e
      rw [h3] at h2
      exact h2
    have hj := (List.getElem?_eq_some_iff.1 hx).1
    have := (hlk j (by omega)).1 i hi
    rw [List.getD_eq_getElem?_getD, hx] at this
    exact this
set_option maxRecDepth 100000 in
theorem rowsS_of {H : Type} {enc : TypeId × Value → H} {w : World} {base : Nat} {spare : Nat → Bool} {held : Bool} {fuel : Nat} {cs : List Value} {y : DataW H × List MemPlace}
    (h : DataW.trod enc Tryz.prog w base spare held fuel 48 cs = some y) : ∃ p len cap, cs = [.slice p len cap] ∧ len ≤ cap ∧ B63 len ∧ ∃ l, Rw 3 Sy.scells w p len l ∧ ∀ x ∈ l, (fun _ => True) x := by
  rcases open_parts Tryz.underlying48 Tryz.underlying71 (m := 3) (by kernel_rfl) h with h0 | ⟨a, len, cap, hcs, hl, hm, hp⟩
  · exact ⟨none, 0, 0, h0, Nat.le_refl _, b63_zero, [], rw_nil w, fun x hx => by simp at hx⟩
  · refine ⟨some a, len, cap, hcs, hl, b63_le hl hm, ?_⟩
    clear hm
    obtain ⟨b, o, spot⟩ := a
    have hs : 0 < len → spot = none := by
      intro h0
      obtain ⟨part, n, hlen, hc, _⟩ := hp 0 h0
      match part, hlen with
      | [v0, v1, v2], _ =>
        have k0 := hc 0 (by decide)
        simpa [Addr.add] using World.cell?_spot k0
    by_cases h0 : 0 < len
    case neg =>
      obtain rfl : len = 0 := by omega
      exact ⟨[], rw_zero w _, fun x hx => by simp at hx⟩
    obtain rfl := hs h0
    have key : ∀ i, i < len → ∃ t : Sy.Sy, (∀ j, j < 3 → w.cell? ⟨b, o + i * 3 + j, none⟩ = (Sy.scells t)[j]?) ∧ (fun _ => True) t := by
      intro i hi
      obtain ⟨part, n, hlen, hc, hf⟩ := hp i hi
      match part, hlen with
      | [v0, v1, v2], _ =>
        obtain ⟨y0, f0⟩ := hf 0 _ rfl
        change DataW.trod enc Tryz.prog w base spare held n 3 (List.take (Tryz.prog.cellsOf 3) (List.drop 0 [v0, v1, v2])) = some y0 at f0
        rw [show Tryz.prog.cellsOf 3 = 1 by kernel_rfl] at f0
        obtain ⟨m0, e0, _, g0⟩ := DataW.trod_int Tryz.underlying3 f0
        obtain ⟨y1, f1⟩ := hf 1 _ rfl
        change DataW.trod enc Tryz.prog w base spare held n 3 (List.take (Tryz.prog.cellsOf 3) (List.drop 1 [v0, v1, v2])) = some y1 at f1
        rw [show Tryz.prog.cellsOf 3 = 1 by kernel_rfl] at f1
        obtain ⟨m1, e1, _, g1⟩ := DataW.trod_int Tryz.underlying3 f1
        obtain ⟨y2, f2⟩ := hf 2 _ rfl
        change DataW.trod enc Tryz.prog w base spare held n 3 (List.take (Tryz.prog.cellsOf 3) (List.drop 2 [v0, v1, v2])) = some y2 at f2
        rw [show Tryz.prog.cellsOf 3 = 1 by kernel_rfl] at f2
        obtain ⟨m2, e2, _, g2⟩ := DataW.trod_int Tryz.underlying3 f2
        simp only [List.drop_zero, List.drop_succ_cons, List.take_succ_cons, List.take_zero, List.cons.injEq, and_true] at e0 e1 e2
        subst e0 e1 e2
        refine ⟨⟨m0, m1, m2⟩, fun j hj => ?_, trivial⟩
        have := hc j hj
        rw [add_none, ← Nat.add_assoc] at this
        exact this
    obtain ⟨l, hll, hlk⟩ := list_of (⟨0, 0, 0⟩ : Sy.Sy) (fun i t => (∀ j, j < 3 → w.cell? ⟨b, o + i * 3 + j, none⟩ = (Sy.scells t)[j]?) ∧ (fun _ => True) t) len key
    refine ⟨l, ⟨hll, fun _ => ⟨b, o, rfl, fun j x hx i hi => ?_⟩⟩, fun x hx => ?_⟩
    case refine_2 =>
      obtain ⟨j, hj, e⟩ := List.mem_iff_getElem.1 hx
      have h2 := (hlk j (by omega)).2
      have h3 : l.getD j (⟨0, 0, 0⟩ : Sy.Sy) = x := by rw [List.getD_eq_getElem?_getD, List.getElem?_eq_getElem hj]; exact e
      rw [h3] at h2
      exact h2
    have hj := (List.getElem?_eq_some_iff.1 hx).1
    have := (hlk j (by omega)).1 i hi
    rw [List.getD_eq_getElem?_getD, hx] at this
    exact this
theorem i64_in {n : Int} (h : (Lit.int .i64 n).wf = true) : I64 n := Se.i64_of h
theorem u8_in {n : Int} (h : (Lit.int .u8 n).wf = true) : 0 ≤ n ∧ n ≤ 255 := by
  have h1 := (Lit.wf_int_iff .u8 n).1 h
  have e1 : IntKind.u8.min = 0 := by decide
  have e2 : IntKind.u8.max = 255 := by decide
  rw [e1, e2] at h1
  omega
set_option maxRecDepth 100000 in
theorem rowsA_of {H : Type} {enc : TypeId × Value → H} {w : World} {base : Nat} {spare : Nat → Bool} {held : Bool} {fuel : Nat} {cs : List Value} {y : DataW H × List MemPlace}
    (h : DataW.trod enc Tryz.prog w base spare held fuel 26 cs = some y) : ∃ p len cap, cs = [.slice p len cap] ∧ len ≤ cap ∧ B63 len ∧ ∃ l, Rw 6 acells w p len l ∧ ∀ x ∈ l, (Aok) x := by
  rcases open_parts Tryz.underlying26 Tryz.underlying39 (m := 6) (by kernel_rfl) h with h0 | ⟨a, len, cap, hcs, hl, hm, hp⟩
  · exact ⟨none, 0, 0, h0, Nat.le_refl _, b63_zero, [], rw_nil w, fun x hx => by simp at hx⟩
  · refine ⟨some a, len, cap, hcs, hl, b63_le hl hm, ?_⟩
    clear hm
    obtain ⟨b, o, spot⟩ := a
    have hs : 0 < len → spot = none := by
      intro h0
      obtain ⟨part, n, hlen, hc, _⟩ := hp 0 h0
      match part, hlen with
      | [v0, v1, v2, v3, v4, v5], _ =>
        have k0 := hc 0 (by decide)
        simpa [Addr.add] using World.cell?_spot k0
    by_cases h0 : 0 < len
    case neg =>
      obtain rfl : len = 0 := by omega
      exact ⟨[], rw_zero w _, fun x hx => by simp at hx⟩
    obtain rfl := hs h0
    have key : ∀ i, i < len → ∃ t : Ac, (∀ j, j < 6 → w.cell? ⟨b, o + i * 6 + j, none⟩ = (acells t)[j]?) ∧ (Aok) t := by
      intro i hi
      obtain ⟨part, n, hlen, hc, hf⟩ := hp i hi
      match part, hlen with
      | [v0, v1, v2, v3, v4, v5], _ =>
        obtain ⟨y0, f0⟩ := hf 0 _ rfl
        change DataW.trod enc Tryz.prog w base spare held n 5 (List.take (Tryz.prog.cellsOf 5) (List.drop 0 [v0, v1, v2, v3, v4, v5])) = some y0 at f0
        rw [show Tryz.prog.cellsOf 5 = 1 by kernel_rfl] at f0
        obtain ⟨m0, e0, _, g0⟩ := DataW.trod_int Tryz.underlying5 f0
        obtain ⟨y1, f1⟩ := hf 1 _ rfl
        change DataW.trod enc Tryz.prog w base spare held n 3 (List.take (Tryz.prog.cellsOf 3) (List.drop 1 [v0, v1, v2, v3, v4, v5])) = some y1 at f1
        rw [show Tryz.prog.cellsOf 3 = 1 by kernel_rfl] at f1
        obtain ⟨m1, e1, _, g1⟩ := DataW.trod_int Tryz.underlying3 f1
        obtain ⟨y2, f2⟩ := hf 2 _ rfl
        change DataW.trod enc Tryz.prog w base spare held n 3 (List.take (Tryz.prog.cellsOf 3) (List.drop 2 [v0, v1, v2, v3, v4, v5])) = some y2 at f2
        rw [show Tryz.prog.cellsOf 3 = 1 by kernel_rfl] at f2
        obtain ⟨m2, e2, _, g2⟩ := DataW.trod_int Tryz.underlying3 f2
        obtain ⟨y3, f3⟩ := hf 3 _ rfl
        change DataW.trod enc Tryz.prog w base spare held n 3 (List.take (Tryz.prog.cellsOf 3) (List.drop 3 [v0, v1, v2, v3, v4, v5])) = some y3 at f3
        rw [show Tryz.prog.cellsOf 3 = 1 by kernel_rfl] at f3
        obtain ⟨m3, e3, _, g3⟩ := DataW.trod_int Tryz.underlying3 f3
        obtain ⟨y4, f4⟩ := hf 4 _ rfl
        change DataW.trod enc Tryz.prog w base spare held n 3 (List.take (Tryz.prog.cellsOf 3) (List.drop 4 [v0, v1, v2, v3, v4, v5])) = some y4 at f4
        rw [show Tryz.prog.cellsOf 3 = 1 by kernel_rfl] at f4
        obtain ⟨m4, e4, _, g4⟩ := DataW.trod_int Tryz.underlying3 f4
        obtain ⟨y5, f5⟩ := hf 5 _ rfl
        change DataW.trod enc Tryz.prog w base spare held n 5 (List.take (Tryz.prog.cellsOf 5) (List.drop 5 [v0, v1, v2, v3, v4, v5])) = some y5 at f5
        rw [show Tryz.prog.cellsOf 5 = 1 by kernel_rfl] at f5
        obtain ⟨m5, e5, _, g5⟩ := DataW.trod_int Tryz.underlying5 f5
        simp only [List.drop_zero, List.drop_succ_cons, List.take_succ_cons, List.take_zero, List.cons.injEq, and_true] at e0 e1 e2 e3 e4 e5
        subst e0 e1 e2 e3 e4 e5
        refine ⟨⟨m0, m1, m2, m3, m4, m5⟩, fun j hj => ?_, ⟨(u8_in g0).1, (u8_in g0).2, i64_in g1, i64_in g2, i64_in g3, i64_in g4, (u8_in g5).1, (u8_in g5).2⟩⟩
        have := hc j hj
        rw [add_none, ← Nat.add_assoc] at this
        exact this
    obtain ⟨l, hll, hlk⟩ := list_of (⟨0, 0, 0, 0, 0, 0⟩ : Ac) (fun i t => (∀ j, j < 6 → w.cell? ⟨b, o + i * 6 + j, none⟩ = (acells t)[j]?) ∧ (Aok) t) len key
    refine ⟨l, ⟨hll, fun _ => ⟨b, o, rfl, fun j x hx i hi => ?_⟩⟩, fun x hx => ?_⟩
    case refine_2 =>
      obtain ⟨j, hj, e⟩ := List.mem_iff_getElem.1 hx
      have h2 := (hlk j (by omega)).2
      have h3 : l.getD j (⟨0, 0, 0, 0, 0, 0⟩ : Ac) = x := by rw [List.getD_eq_getElem?_getD, List.getElem?_eq_getElem hj]; exact e
      rw [h3] at h2
      exact h2
    have hj := (List.getElem?_eq_some_iff.1 hx).1
    have := (hlk j (by omega)).1 i hi
    rw [List.getD_eq_getElem?_getD, hx] at this
    exact this
set_option maxRecDepth 100000 in
theorem rowsL_of {H : Type} {enc : TypeId × Value → H} {w : World} {base : Nat} {spare : Nat → Bool} {held : Bool} {fuel : Nat} {cs : List Value} {y : DataW H × List MemPlace}
    (h : DataW.trod enc Tryz.prog w base spare held fuel 35 cs = some y) : ∃ p len cap, cs = [.slice p len cap] ∧ len ≤ cap ∧ B63 len ∧ ∃ l, Rw 8 lcells w p len l ∧ ∀ x ∈ l, (fun y => St w y ∧ B63 y.n) x := by
  rcases open_parts Tryz.underlying35 Tryz.underlying50 (m := 8) (by kernel_rfl) h with h0 | ⟨a, len, cap, hcs, hl, hm, hp⟩
  · exact ⟨none, 0, 0, h0, Nat.le_refl _, b63_zero, [], rw_nil w, fun x hx => by simp at hx⟩
  · refine ⟨some a, len, cap, hcs, hl, b63_le hl hm, ?_⟩
    clear hm
    obtain ⟨b, o, spot⟩ := a
    have hs : 0 < len → spot = none := by
      intro h0
      obtain ⟨part, n, hlen, hc, _⟩ := hp 0 h0
      match part, hlen with
      | [v0, v1, v2, v3, v4, v5, v6, v7], _ =>
        have k0 := hc 0 (by decide)
        simpa [Addr.add] using World.cell?_spot k0
    by_cases h0 : 0 < len
    case neg =>
      obtain rfl : len = 0 := by omega
      exact ⟨[], rw_zero w _, fun x hx => by simp at hx⟩
    obtain rfl := hs h0
    have key : ∀ i, i < len → ∃ t : Lv, (∀ j, j < 8 → w.cell? ⟨b, o + i * 8 + j, none⟩ = (lcells t)[j]?) ∧ (fun y => St w y ∧ B63 y.n) t := by
      intro i hi
      obtain ⟨part, n, hlen, hc, hf⟩ := hp i hi
      match part, hlen with
      | [v0, v1, v2, v3, v4, v5, v6, v7], _ =>
        obtain ⟨y0, f0⟩ := hf 0 _ rfl
        change DataW.trod enc Tryz.prog w base spare held n 3 (List.take (Tryz.prog.cellsOf 3) (List.drop 0 [v0, v1, v2, v3, v4, v5, v6, v7])) = some y0 at f0
        rw [show Tryz.prog.cellsOf 3 = 1 by kernel_rfl] at f0
        obtain ⟨m0, e0, _, g0⟩ := DataW.trod_int Tryz.underlying3 f0
        obtain ⟨y1, f1⟩ := hf 1 _ rfl
        change DataW.trod enc Tryz.prog w base spare held n 3 (List.take (Tryz.prog.cellsOf 3) (List.drop 1 [v0, v1, v2, v3, v4, v5, v6, v7])) = some y1 at f1
        rw [show Tryz.prog.cellsOf 3 = 1 by kernel_rfl] at f1
        obtain ⟨m1, e1, _, g1⟩ := DataW.trod_int Tryz.underlying3 f1
        obtain ⟨y2, f2⟩ := hf 2 _ rfl
        change DataW.trod enc Tryz.prog w base spare held n 3 (List.take (Tryz.prog.cellsOf 3) (List.drop 2 [v0, v1, v2, v3, v4, v5, v6, v7])) = some y2 at f2
        rw [show Tryz.prog.cellsOf 3 = 1 by kernel_rfl] at f2
        obtain ⟨m2, e2, _, g2⟩ := DataW.trod_int Tryz.underlying3 f2
        obtain ⟨y3, f3⟩ := hf 3 _ rfl
        change DataW.trod enc Tryz.prog w base spare held n 3 (List.take (Tryz.prog.cellsOf 3) (List.drop 3 [v0, v1, v2, v3, v4, v5, v6, v7])) = some y3 at f3
        rw [show Tryz.prog.cellsOf 3 = 1 by kernel_rfl] at f3
        obtain ⟨m3, e3, _, g3⟩ := DataW.trod_int Tryz.underlying3 f3
        obtain ⟨y4, f4⟩ := hf 4 _ rfl
        change DataW.trod enc Tryz.prog w base spare held n 3 (List.take (Tryz.prog.cellsOf 3) (List.drop 4 [v0, v1, v2, v3, v4, v5, v6, v7])) = some y4 at f4
        rw [show Tryz.prog.cellsOf 3 = 1 by kernel_rfl] at f4
        obtain ⟨m4, e4, _, g4⟩ := DataW.trod_int Tryz.underlying3 f4
        obtain ⟨y5, f5⟩ := hf 5 _ rfl
        change DataW.trod enc Tryz.prog w base spare held n 3 (List.take (Tryz.prog.cellsOf 3) (List.drop 5 [v0, v1, v2, v3, v4, v5, v6, v7])) = some y5 at f5
        rw [show Tryz.prog.cellsOf 3 = 1 by kernel_rfl] at f5
        obtain ⟨m5, e5, _, g5⟩ := DataW.trod_int Tryz.underlying3 f5
        obtain ⟨y6, f6⟩ := hf 6 _ rfl
        change DataW.trod enc Tryz.prog w base spare held n 47 (List.take (Tryz.prog.cellsOf 47) (List.drop 6 [v0, v1, v2, v3, v4, v5, v6, v7])) = some y6 at f6
        rw [show Tryz.prog.cellsOf 47 = 1 by kernel_rfl] at f6
        obtain ⟨m6, e6, _, g6⟩ := DataW.trod_int Tryz.underlying47 f6
        obtain ⟨y7, f7⟩ := hf 7 _ rfl
        change DataW.trod enc Tryz.prog w base spare held n 48 (List.take (Tryz.prog.cellsOf 48) (List.drop 7 [v0, v1, v2, v3, v4, v5, v6, v7])) = some y7 at f7
        rw [show Tryz.prog.cellsOf 48 = 1 by kernel_rfl] at f7
        obtain ⟨p7, n7, c7, e7, hnc, hbig, ls, hls, _⟩ := rowsS_of f7
        simp only [List.drop_zero, List.drop_succ_cons, List.take_succ_cons, List.take_zero, List.cons.injEq, and_true] at e0 e1 e2 e3 e4 e5 e6 e7
        subst e0 e1 e2 e3 e4 e5 e6 e7
        refine ⟨⟨⟨m0, m1, m2, m3, m4, m5, m6, ls⟩, p7, n7, c7⟩, fun j hj => ?_, ⟨hls, hnc⟩, hbig⟩
        have := hc j hj
        rw [add_none, ← Nat.add_assoc] at this
        exact this
    obtain ⟨l, hll, hlk⟩ := list_of (⟨lt0, none, 0, 0⟩ : Lv) (fun i t => (∀ j, j < 8 → w.cell? ⟨b, o + i * 8 + j, none⟩ = (lcells t)[j]?) ∧ (fun y => St w y ∧ B63 y.n) t) len key
    refine ⟨l, ⟨hll, fun _ => ⟨b, o, rfl, fun j x hx i hi => ?_⟩⟩, fun x hx => ?_⟩
    case refine_2 =>
      obtain ⟨j, hj, e⟩ := List.mem_iff_getElem.1 hx
      have h2 := (hlk j (by omega)).2
      have h3 : l.getD j (⟨lt0, none, 0, 0⟩ : Lv) = x := by rw [List.getD_eq_getElem?_getD, List.getElem?_eq_getElem hj]; exact e
      rw [h3] at h2
      exact h2
    have hj := (List.getElem?_eq_some_iff.1 hx).1
    have := (hlk j (by omega)).1 i hi
    rw [List.getD_eq_getElem?_getD, hx] at this
    exact this
/-- Zones and products that came in. -/
structure Hs where
  p : Option Addr
  n : Nat
  c : Nat
  q : Option Addr
  m : Nat
  d : Nat
def InH (W : World) (v : Value) (x : Hs) : Prop := v = .agg #[.slice x.p x.n x.c, .slice x.q x.m x.d] ∧ B63 x.n ∧ B63 x.m ∧ (∃ l, Rw 6 Ms.zcells W x.p x.n l) ∧ ∃ l, Rw 3 Ms.pcells W x.q x.m l
set_option maxRecDepth 100000 in
theorem inH_of {H : Type} {enc : TypeId × Value → H} {W : World} {base : Nat} {v : Value} {d : DataW H} {ps : List MemPlace} (hv : Value.okWide Tryz.prog W .any base 25 v) (h : DataW.Trod enc Tryz.prog W 0 (fun _ => true) true 25 v d ps) :
    ∃ x, InH W v x := by
  obtain ⟨cs, rfl, hl, hf⟩ := open_whole Tryz.underlying25 (m := 2) (by kernel_rfl) hv h
  match cs, hl with
  | [v0, v1], _ =>
    obtain ⟨n0, y0, f0⟩ := hf 0 _ rfl
    obtain ⟨n1, y1, f1⟩ := hf 1 _ rfl
    change DataW.trod enc Tryz.prog W 0 (fun _ => true) true n0 22 (List.take (Tryz.prog.cellsOf 22) (List.drop 0 [v0, v1])) = some y0 at f0
    change DataW.trod enc Tryz.prog W 0 (fun _ => true) true n1 23 (List.take (Tryz.prog.cellsOf 23) (List.drop 1 [v0, v1])) = some y1 at f1
    rw [show Tryz.prog.cellsOf 22 = 1 by kernel_rfl] at f0
    rw [show Tryz.prog.cellsOf 23 = 1 by kernel_rfl] at f1
    obtain ⟨p0, l0, c0, e0, _, b0, z, hz, _⟩ := rowsZ_of f0
    obtain ⟨p1, l1, c1, e1, _, b1, q, hq, _⟩ := rowsP_of f1
    simp only [List.drop_zero, List.drop_succ_cons, List.take_succ_cons, List.take_zero, List.cons.injEq, and_true] at e0 e1
    subst e0 e1
    exact ⟨⟨p0, l0, c0, p1, l1, c1⟩, rfl, b0, b1, ⟨z, hz⟩, q, hq⟩
/-- A slice that came in. -/
structure Sl where
  p : Option Addr
  n : Nat
  c : Nat
def InA (W : World) (v : Value) (x : Sl) : Prop := v = .slice x.p x.n x.c ∧ x.n ≤ x.c ∧ B63 x.n ∧ ∃ l, Rw 6 acells W x.p x.n l ∧ ∀ y ∈ l, Aok y
set_option maxRecDepth 100000 in
theorem inA_of {H : Type} {enc : TypeId × Value → H} {W : World} {base : Nat} {v : Value} {d : DataW H} {ps : List MemPlace} (hv : Value.okWide Tryz.prog W .any base 26 v) (h : DataW.Trod enc Tryz.prog W 0 (fun _ => true) true 26 v d ps) :
    ∃ x, InA W v x := by
  obtain ⟨a, len, cap, rfl⟩ := okWide_slice Tryz.underlying26 hv
  obtain ⟨fuel, hf⟩ := h
  obtain ⟨p, n, c, e, g1, g2, l, hA, hB⟩ := rowsA_of hf
  simp only [Value.cells, List.cons.injEq, and_true, Value.slice.injEq] at e
  obtain ⟨rfl, rfl, rfl⟩ := e
  exact ⟨⟨a, len, cap⟩, rfl, g1, g2, l, hA, hB⟩
def InL (W : World) (v : Value) (x : Sl) : Prop := v = .slice x.p x.n x.c ∧ x.n ≤ x.c ∧ B63 x.n ∧ ∃ l, Ll W x.p x.n l ∧ ∀ y ∈ l, B63 y.n
set_option maxRecDepth 100000 in
theorem inL_of {H : Type} {enc : TypeId × Value → H} {W : World} {base : Nat} {v : Value} {d : DataW H} {ps : List MemPlace} (hv : Value.okWide Tryz.prog W .any base 35 v) (h : DataW.Trod enc Tryz.prog W 0 (fun _ => true) true 35 v d ps) :
    ∃ x, InL W v x := by
  obtain ⟨a, len, cap, rfl⟩ := okWide_slice Tryz.underlying35 hv
  obtain ⟨fuel, hf⟩ := h
  obtain ⟨p, n, c, e, g1, g2, l, hA, hB⟩ := rowsL_of hf
  simp only [Value.cells, List.cons.injEq, and_true, Value.slice.injEq] at e
  obtain ⟨rfl, rfl, rfl⟩ := e
  exact ⟨⟨a, len, cap⟩, rfl, g1, g2, l, ⟨hA, fun y hy => (hB y hy).1⟩, fun y hy => (hB y hy).2⟩
end Lo
end Go.Proofs.YtkfmkchonlajpaaGreat
