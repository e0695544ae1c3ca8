/- MasterTells' walk. Condition: the contracts of package master. -/
import Derived.Test.YtpceoklacpcfkaaMsL1
import Derived.Test.YtpceoklacpcfkaaMsD
import Derived.Test.YtpceoklacpcfkaaMsCZ
import Derived.Test.YtpceoklacpcfkaaMsCP
import Derived.Deep.RegionHeld3
namespace Go.Proofs.Ytpceoklacpcfkaa
open Go.RowKit

namespace Ms
def runZ (l : List Zn) : List Zn := l.foldl (fun S z => (addZ S z).2) []
def runP (l : List Pd) : List Pd := l.foldl (fun S z => (addP S z).2) []
theorem runZ_snoc (l : List Zn) (x : Zn) : runZ (l ++ [x]) = (addZ (runZ l) x).2 := by simp [runZ, List.foldl_append]
theorem runP_snoc (l : List Pd) (x : Pd) : runP (l ++ [x]) = (addP (runP l) x).2 := by simp [runP, List.foldl_append]
theorem foldZ_ok : ∀ (l : List Zn) (S : List Zn), GoodZ S → GoodZ (l.foldl (fun S z => (addZ S z).2) S) ∧ (l.foldl (fun S z => (addZ S z).2) S).length ≤ S.length + l.length
  | [], S, h => ⟨h, Nat.le_refl _⟩
  | x :: l, S, h => by
    have := foldZ_ok l (addZ S x).2 (goodZ_add h x)
    have h2 := addZ_len (S := S) (z := x)
    refine ⟨this.1, ?_⟩
    simp only [List.foldl_cons, List.length_cons]
    omega
theorem foldP_ok : ∀ (l : List Pd) (S : List Pd), GoodP S → GoodP (l.foldl (fun S z => (addP S z).2) S) ∧ (l.foldl (fun S z => (addP S z).2) S).length ≤ S.length + l.length
  | [], S, h => ⟨h, Nat.le_refl _⟩
  | x :: l, S, h => by
    have := foldP_ok l (addP S x).2 (goodP_add h x)
    have h2 := addP_len (S := S) (p := x)
    refine ⟨this.1, ?_⟩
    simp only [List.foldl_cons, List.length_cons]
    omega
theorem runZ_good (l : List Zn) : GoodZ (runZ l) := (foldZ_ok l [] goodZ_nil).1
theorem runP_good (l : List Pd) : GoodP (runP l) := (foldP_ok l [] goodP_nil).1
theorem runZ_len (l : List Zn) : (runZ l).length ≤ l.length := by have := (foldZ_ok l [] goodZ_nil).2; simpa [runZ] using this
theorem runP_len (l : List Pd) : (runP l).length ≤ l.length := by have := (foldP_ok l [] goodP_nil).2; simpa [runP] using this
/-- A master, and the document's one, side by side. -/
def Both (I : Face) (w W : World) (h g : Nat) (Z : List Zn) (P : List Pd) (Z2 : List Zn) (P2 : List Pd) : Prop :=
  ∃ F Bg vz vp, w.heap.size ≤ Bg ∧ I.DB W w.heap.size h F Z P ∧ RM W Bg g vz vp Z2 P2 ∧ (∀ k, F k → k ≠ g ∧ vz.ownBlock ≠ some k ∧ vp.ownBlock ≠ some k) ∧ Below w.heap.size w W
theorem both_below {I : Face} {w W w' : World} {h g : Nat} {Z Z2 : List Zn} {P P2 : List Pd} (hs : Both I w W h g Z P Z2 P2) (hb : Below W.heap.size W w') : Both I w w' h g Z P Z2 P2 := by
  obtain ⟨F, Bg, vz, vp, h1, h2, h3, h4, h5⟩ := hs
  exact ⟨F, Bg, vz, vp, h1, I.keep h2 hb, h3.keep hb, h4, h5.trans (hb.mono h5.size)⟩
theorem both_under {I : Face} {w W : World} {h g : Nat} {Z Z2 : List Zn} {P P2 : List Pd} (hs : Both I w W h g Z P Z2 P2) : Below w.heap.size w W := by
  obtain ⟨F, Bg, vz, vp, h1, h2, h3, h4, h5⟩ := hs
  exact h5
theorem both_m {I : Face} {w W w' : World} {h g : Nat} {F : Nat → Prop} {Bg : Nat} {vz vp : Value} {Z Z' Z2 : List Zn} {P P' P2 : List Pd} (h1 : w.heap.size ≤ Bg) (h2 : I.DB W w.heap.size h F Z P) (h3 : RM W Bg g vz vp Z2 P2) (h4 : ∀ k, F k → k ≠ g ∧ vz.ownBlock ≠ some k ∧ vp.ownBlock ≠ some k) (h5 : Below w.heap.size w W)
    (h' : ∃ F', I.DB w' w.heap.size h F' Z' P' ∧ Turn F W w' ∧ ∀ k, F' k → F k ∨ W.heap.size ≤ k) : Both I w w' h g Z' P' Z2 P2 := by
  obtain ⟨F', hd, ht, hk⟩ := h'
  refine ⟨F', Bg, vz, vp, h1, hd, h3.turn ht (fun hh => (h4 g hh).1 rfl) (fun k e hh => (h4 k hh).2.1 e) (fun k e hh => (h4 k hh).2.2 e), fun k hf => ?_, ht.below h5 h5.size (fun i hi => (I.foot h2 hi).1)⟩
  rcases hk k hf with hf | hf
  · exact h4 k hf
  · have hg := h3.2.1.lt
    exact ⟨by omega, fun e => by have := (own_lt h3.2.2.1 e).2; omega, fun e => by have := (own_lt h3.2.2.2 e).2; omega⟩
theorem both_Z1 {I : Face} {w W : World} {h g : Nat} {Z Z2 : List Zn} {P P2 : List Pd} (hs : Both I w W h g Z P Z2 P2) (hG : GoodZ Z) (hL : Z.length ≤ 1000) (z : Zn) :
    Calls Try.prog 7 #[.pointer (some ⟨h, 0, none⟩), zval z] W fun e w' => e = .returned (.int .i64 ((addZ Z z).1 : Nat)) ∧ Both I w w' h g (addZ Z z).2 P Z2 P2 := by
  obtain ⟨F, Bg, vz, vp, h1, h2, h3, h4, h5⟩ := hs
  exact (I.addZ _ h F Z P z W h2 hG hL).mono fun e w' ⟨he, h'⟩ => ⟨he, both_m h1 h2 h3 h4 h5 h'⟩
theorem both_P1 {I : Face} {w W : World} {h g : Nat} {Z Z2 : List Zn} {P P2 : List Pd} (hs : Both I w W h g Z P Z2 P2) (hG : GoodP P) (hL : P.length ≤ 1000) (z : Pd) :
    Calls Try.prog 9 #[.pointer (some ⟨h, 0, none⟩), pval z] W fun e w' => e = .returned (.int .i64 ((addP P z).1 : Nat)) ∧ Both I w w' h g Z (addP P z).2 Z2 P2 := by
  obtain ⟨F, Bg, vz, vp, h1, h2, h3, h4, h5⟩ := hs
  exact (I.addP _ h F Z P z W h2 hG hL).mono fun e w' ⟨he, h'⟩ => ⟨he, both_m h1 h2 h3 h4 h5 h'⟩
theorem both_Z2 {I : Face} {w W : World} {h g : Nat} {Z Z2 : List Zn} {P P2 : List Pd} (hs : Both I w W h g Z P Z2 P2) (hL : Z2.length ≤ 1000) (z : Zn) :
    Calls Try.prog 8 #[.pointer (some ⟨g, 0, none⟩), zval z] W fun e w' => e = .returned (.int .i64 ((addZ Z2 z).1 : Nat)) ∧ Both I w w' h g Z P (addZ Z2 z).2 P2 := by
  obtain ⟨F, Bg, vz, vp, h1, h2, h3, h4, h5⟩ := hs
  refine (raddZ_any Bg g vz vp Z2 P2 z W h3 (by omega)).mono fun e w' ⟨he, v', hr, ht, hv⟩ => ⟨he, F, Bg, v', vp, h1, I.turn h2 ht (fun k hk => (h4 k hk).1), hr, fun k hk => ⟨(h4 k hk).1, fun e => ?_, (h4 k hk).2.2⟩, ht.below h5 h5.size (fun i hi => by rw [hi]; exact Nat.le_trans h1 h3.1)⟩
  rcases hv with rfl | hv
  · exact (h4 k hk).2.1 e
  · have := hv k e
    have := (I.foot h2 hk).2
    omega
theorem both_P2 {I : Face} {w W : World} {h g : Nat} {Z Z2 : List Zn} {P P2 : List Pd} (hs : Both I w W h g Z P Z2 P2) (hL : P2.length ≤ 1000) (z : Pd) :
    Calls Try.prog 10 #[.pointer (some ⟨g, 0, none⟩), pval z] W fun e w' => e = .returned (.int .i64 ((addP P2 z).1 : Nat)) ∧ Both I w w' h g Z P Z2 (addP P2 z).2 := by
  obtain ⟨F, Bg, vz, vp, h1, h2, h3, h4, h5⟩ := hs
  refine (raddP_any Bg g vz vp Z2 P2 z W h3 (by omega)).mono fun e w' ⟨he, v', hr, ht, hv⟩ => ⟨he, F, Bg, vz, v', h1, I.turn h2 ht (fun k hk => (h4 k hk).1), hr, fun k hk => ⟨(h4 k hk).1, (h4 k hk).2.1, fun e => ?_⟩, ht.below h5 h5.size (fun i hi => by rw [hi]; exact Nat.le_trans h1 h3.1)⟩
  rcases hv with rfl | hv
  · exact (h4 k hk).2.2 e
  · have := hv k e
    have := (I.foot h2 hk).2
    omega
theorem both_rowZ1 {I : Face} {w W : World} {h g : Nat} {Z Z2 : List Zn} {P P2 : List Pd} (hs : Both I w W h g Z P Z2 P2) {m : Int} (h0 : -9223372036854775808 ≤ m) (h1 : m ≤ 9223372036854775807) :
    Calls Try.prog 11 #[.pointer (some ⟨h, 0, none⟩), .int .i64 m] W fun e w' => e = .returned (.tuple #[zval (getK (findK Zn.id m Z) zn0).1, .int .i64 ((getK (findK Zn.id m Z) zn0).2 : Nat)]) ∧ Both I w w' h g Z P Z2 P2 ∧ Below W.heap.size W w' := by
  have hs' := hs
  obtain ⟨F, Bg, vz, vp, _, h2, h3, h4, h5⟩ := hs
  exact (I.zone _ h F Z P m W h2 h0 h1).mono fun e w' ⟨he, hb⟩ => ⟨he, both_below hs' hb, hb⟩
theorem both_rowZ2 {I : Face} {w W : World} {h g : Nat} {Z Z2 : List Zn} {P P2 : List Pd} (hs : Both I w W h g Z P Z2 P2) (hL : Z2.length ≤ 1000) (m : Int) :
    Calls Try.prog 12 #[.pointer (some ⟨g, 0, none⟩), .int .i64 m] W fun e w' => e = .returned (.tuple #[zval (getK (findK Zn.id m Z2) zn0).1, .int .i64 ((getK (findK Zn.id m Z2) zn0).2 : Nat)]) ∧ Both I w w' h g Z P Z2 P2 ∧ Below W.heap.size W w' := by
  have hs' := hs
  obtain ⟨F, Bg, vz, vp, _, h2, h3, h4, h5⟩ := hs
  exact (rrowZ_any Bg g vz vp Z2 P2 m W h3 (by omega)).mono fun e w' ⟨he, hb⟩ => ⟨he, both_below hs' hb, hb⟩
/-- All of them: how they lie. -/
def LayZ (w : World) (q : Option Addr) (n : Nat) (L : List Zn) : Prop := Rw 6 zcells w q n L
theorem both_allZ {I : Face} {w W : World} {h g : Nat} {Z Z2 : List Zn} {P P2 : List Pd} (hs : Both I w W h g Z P Z2 P2) (hG : GoodZ Z) (hL : Z.length ≤ 1000) {n : Nat} (hn : Z.length = n) :
    Calls Try.prog 16 #[.pointer (some ⟨h, 0, none⟩)] W fun e w' => ∃ q c, e = .returned (.slice q n c) ∧ LayZ w' q n Z ∧ Below W.heap.size W w' ∧ Both I w w' h g Z P Z2 P2 := by
  have hs' := hs
  obtain ⟨F, Bg, vz, vp, _, h2, h3, h4, h5⟩ := hs
  refine (I.zones _ h F Z P W h2 hG hL).mono fun e w' hh => ?_
  obtain ⟨q, c, he, _, _, hr, hb⟩ := zs_end hn hh
  exact ⟨q, c, he, hr, hb, both_below hs' hb⟩
theorem both_cellZ {I : Face} {w W : World} {h g : Nat} {Z Z2 : List Zn} {P P2 : List Pd} (hs : Both I w W h g Z P Z2 P2) {n : Nat} (hn : Z2.length = n) : ∃ q c, W.cell? ⟨g, 0, none⟩ = some (.slice q n c) ∧ LayZ W q n Z2 ∧ g < W.heap.size := by
  subst hn
  obtain ⟨F, Bg, vz, vp, _, h2, h3, h4, h5⟩ := hs
  obtain ⟨q, c, rfl, hc, hr⟩ := rw_own zcells_len h3.2.2.1
  exact ⟨q, c, h3.2.1.cell 0, hr, h3.2.1.lt⟩
theorem both_rowP1 {I : Face} {w W : World} {h g : Nat} {Z Z2 : List Zn} {P P2 : List Pd} (hs : Both I w W h g Z P Z2 P2) {m : Int} (h0 : -9223372036854775808 ≤ m) (h1 : m ≤ 9223372036854775807) :
    Calls Try.prog 13 #[.pointer (some ⟨h, 0, none⟩), .int .i64 m] W fun e w' => e = .returned (.tuple #[pval (getK (findK Pd.id m P) pd0).1, .int .i64 ((getK (findK Pd.id m P) pd0).2 : Nat)]) ∧ Both I w w' h g Z P Z2 P2 ∧ Below W.heap.size W w' := by
  have hs' := hs
  obtain ⟨F, Bg, vz, vp, _, h2, h3, h4, h5⟩ := hs
  exact (I.product _ h F Z P m W h2 h0 h1).mono fun e w' ⟨he, hb⟩ => ⟨he, both_below hs' hb, hb⟩
theorem both_rowP2 {I : Face} {w W : World} {h g : Nat} {Z Z2 : List Zn} {P P2 : List Pd} (hs : Both I w W h g Z P Z2 P2) (hL : P2.length ≤ 1000) (m : Int) :
    Calls Try.prog 14 #[.pointer (some ⟨g, 0, none⟩), .int .i64 m] W fun e w' => e = .returned (.tuple #[pval (getK (findK Pd.id m P2) pd0).1, .int .i64 ((getK (findK Pd.id m P2) pd0).2 : Nat)]) ∧ Both I w w' h g Z P Z2 P2 ∧ Below W.heap.size W w' := by
  have hs' := hs
  obtain ⟨F, Bg, vz, vp, _, h2, h3, h4, h5⟩ := hs
  exact (rrowP_any Bg g vz vp Z2 P2 m W h3 (by omega)).mono fun e w' ⟨he, hb⟩ => ⟨he, both_below hs' hb, hb⟩
/-- All of them: how they lie. -/
def LayP (w : World) (q : Option Addr) (n : Nat) (L : List Pd) : Prop := Rw 3 pcells w q n L
theorem both_allP {I : Face} {w W : World} {h g : Nat} {Z Z2 : List Zn} {P P2 : List Pd} (hs : Both I w W h g Z P Z2 P2) (hG : GoodP P) (hL : P.length ≤ 1000) {n : Nat} (hn : P.length = n) :
    Calls Try.prog 18 #[.pointer (some ⟨h, 0, none⟩)] W fun e w' => ∃ q c, e = .returned (.slice q n c) ∧ LayP w' q n P ∧ Below W.heap.size W w' ∧ Both I w w' h g Z P Z2 P2 := by
  have hs' := hs
  obtain ⟨F, Bg, vz, vp, _, h2, h3, h4, h5⟩ := hs
  refine (I.products _ h F Z P W h2 hG hL).mono fun e w' hh => ?_
  obtain ⟨q, c, he, _, _, hr, hb⟩ := ps_end hn hh
  exact ⟨q, c, he, hr, hb, both_below hs' hb⟩
theorem both_cellP {I : Face} {w W : World} {h g : Nat} {Z Z2 : List Zn} {P P2 : List Pd} (hs : Both I w W h g Z P Z2 P2) {n : Nat} (hn : P2.length = n) : ∃ q c, W.cell? ⟨g, 1, none⟩ = some (.slice q n c) ∧ LayP W q n P2 ∧ g < W.heap.size := by
  subst hn
  obtain ⟨F, Bg, vz, vp, _, h2, h3, h4, h5⟩ := hs
  obtain ⟨q, c, rfl, hc, hr⟩ := rw_own pcells_len h3.2.2.2
  exact ⟨q, c, h3.2.1.cell 1, hr, h3.2.1.lt⟩

theorem both_start {I : Face} {w w1 : World} {h : Nat} {F : Nat → Prop} (hd : I.DB w1 w.heap.size h F [] []) (hb : Below w.heap.size w w1) : Both I w (w1.alloc (.cells #[.slice none 0 0, .slice none 0 0] 29)) h w1.heap.size [] [] [] [] := by
  have ha := alloc_below w1 (.cells #[.slice none 0 0, .slice none 0 0] 29)
  refine ⟨F, w1.heap.size, .slice none 0 0, .slice none 0 0, hb.size, I.keep hd ha, ⟨Nat.le_refl _, Lies.new w1 _ _, World.ownsRow_nil _ _ _ _, World.ownsRow_nil _ _ _ _⟩, fun k hk => ⟨?_, by simp [Value.ownBlock], by simp [Value.ownBlock]⟩, hb.trans (ha.mono hb.size)⟩
  have := (I.foot hd hk).2
  omega
set_option maxRecDepth 100000 in
set_option maxHeartbeats 8000000 in
theorem tells_long (I : Face) (p : Option Addr) (n c : Nat) (q : Option Addr) (m d : Nat) (id : Int) (w : World) (hn : n ≤ 9223372036854775807) (hm : m ≤ 9223372036854775807) (h : 60 < n ∨ 60 < m) :
    Calls Try.prog 3 #[.slice p n c, .slice q m d, .int .i64 id] w fun e w' => e = .returned (.bool true) ∧ Below w.heap.size w w' := by
  have A := Lib.hid (fun W => alive_any I W)
  by_cases h1 : 60 < n
  · clear h
    have h2 : (60 : Int) < (n : Int) := by omega
    go_enter Try.func3, Try.ntmps3
    go_wp2_with fail
    refine (A.out _).mono ?_
    rintro e w' ⟨rfl, hb⟩
    go_wp2
    go_ret
    exact ⟨rfl, hb⟩
  · have h2 : 60 < m := h.resolve_left h1
    clear h
    have h3 : (60 : Int) < (m : Int) := by omega
    have h4 : ¬ (60 : Int) < (n : Int) := by omega
    have h5 : decide (60 < n) = false := by simpa using h1
    go_enter Try.func3, Try.ntmps3
    go_wp2_with fail
    refine (A.out _).mono ?_
    rintro e w' ⟨rfl, hb⟩
    go_wp2
    go_ret
    exact ⟨rfl, hb⟩
theorem takeZ {α : Type} {L : List α} {k : Nat} {y : α} (hy : L[k]? = some y) : L.take (k + 1) = L.take k ++ [y] := take_one hy
set_option maxRecDepth 100000 in
set_option maxHeartbeats 16000000 in
theorem tells_yes (I : Face) (p : Option Addr) (n c : Nat) (q : Option Addr) (m d : Nat) (id : Int) (L : List Zn) (M : List Pd) (w : World) (hn : n ≤ 60) (hm : m ≤ 60) (hL : Rw 6 zcells w p n L) (hM : Rw 3 pcells w q m M) (h0 : -9223372036854775808 ≤ id) (h1 : id ≤ 9223372036854775807) :
    Calls Try.prog 3 #[.slice p n c, .slice q m d, .int .i64 id] w fun e w' => e = .returned (.bool true) ∧ Below w.heap.size w w' := by
  have HL := Lib.hid hL
  have HM := Lib.hid hM
  have H0 := Lib.hid h0
  have H1 := Lib.hid h1
  have hn' : (n : Int) ≤ 60 := by omega
  have hm' : (m : Int) ≤ 60 := by omega
  have hn2 : decide (60 < n) = false := by simp; omega
  have hm2 : decide (60 < m) = false := by simp; omega
  clear hL hM h0 h1
  go_enter Try.func3, Try.ntmps3
  go_wp2_with fail
  clear hn2 hm2
  refine (I.new _).mono ?_
  rintro e w1 ⟨h, F, rfl, hd, hb⟩
  have S2 := Lib.hid (both_start hd hb)
  clear hd hb
  generalize hg : w1.heap.size = g at S2
  go_wp2_with fail
  clear hg
  go_loopw [9] (fun i wr => ∃ k : Nat, k ≤ n ∧ i = .int .i64 k ∧ Hid (Both I w wr h g (runZ (L.take k)) [] (runZ (L.take k)) [])) (fun i _ => n - (RowKit.intOf i).toNat)
  case atStart => exact ⟨0, Nat.zero_le _, rfl, S2⟩
  case round =>
    obtain ⟨k, hk, rfl, SB⟩ := hrel
    clear S2
    have HLn := Lib.hid HL.out.1
    have KL := Lib.hid (show (runZ (L.take k)).length ≤ 60 from Nat.le_trans (runZ_len _) (by have := HL.out.1; simp; omega))
    by_cases hlt : k < n
    · have hk3 : (k : Int) < (n : Int) := by omega
      obtain ⟨b2, o, hp, hc⟩ := HL.out.2 (by omega)
      obtain ⟨y, hy⟩ : ∃ y, L[k]? = some y := ⟨_, List.getElem?_eq_getElem (by rw [HLn.out]; exact hlt)⟩
      subst hp
      have EC := Lib.hid (fun (W : World) (hW : Below w.heap.size w W) i (hi : i < 6) => ((HL.out.keep zcells_len hW).2 (by omega)))
      have EC2 := Lib.hid (fun (W : World) (hW : Below w.heap.size w W) i (hi : i < 6) => show W.cell? ⟨b2, o + k * 6 + i, none⟩ = (zcells y)[i]? by
        obtain ⟨b3, o3, e3, hc3⟩ := EC.out W hW i hi
        injection e3 with e3
        injection e3 with e4 e5
        subst e4 e5
        exact hc3 k y hy i hi)
      have TK := Lib.hid (show runZ (L.take (k + 1)) = (addZ (runZ (L.take k)) y).2 by rw [takeZ hy, runZ_snoc])
      clear hc hy EC HL
      have GZ := Lib.hid (runZ_good (L.take k))
      generalize runZ (L.take k) = S at *
      have C1 := Lib.hid (fun W (hs : Both I w W h g S [] S []) => both_Z1 hs GZ.out (by have := KL.out; omega) y)
      have C2 := Lib.hid (fun W (hs : Both I w W h g (addZ S y).2 [] S []) => both_Z2 hs (by have := KL.out; omega) y)
      have SN := Lib.hid (fun W (hs : Both I w W h g (addZ S y).2 [] (addZ S y).2 []) => show Both I w W h g (runZ (L.take (k + 1))) [] (runZ (L.take (k + 1))) [] by rw [TK.out]; exact hs)
      clear TK GZ KL
      generalize (addZ S y).2 = S2 at *
      generalize (addZ S y).1 = er at *
      obtain ⟨a, b, c, d, e, f⟩ := y
      unfold zval at C1 C2
      have SD := Lib.hid (both_below SB.out ((Below.refl _ wr).drew))
      have hu := Lib.hid (both_under SB.out)
      have e0 : wr.cell? ⟨b2, o + k * 6, none⟩ = some (.int .i64 a) := EC2.out wr hu.out 0 (by decide)
      have e1 : wr.cell? ⟨b2, o + k * 6 + 1, none⟩ = some (.int .i64 b) := EC2.out wr hu.out 1 (by decide)
      have e2 : wr.cell? ⟨b2, o + k * 6 + 2, none⟩ = some (.int .i64 c) := EC2.out wr hu.out 2 (by decide)
      have e3 : wr.cell? ⟨b2, o + k * 6 + 3, none⟩ = some (.int .i64 d) := EC2.out wr hu.out 3 (by decide)
      have e4 : wr.cell? ⟨b2, o + k * 6 + 4, none⟩ = some (.bool e) := EC2.out wr hu.out 4 (by decide)
      have e5 : wr.cell? ⟨b2, o + k * 6 + 5, none⟩ = some (.int .i64 f) := EC2.out wr hu.out 5 (by decide)
      simp only at C1 C2
      go_wp2_with fail
      go_region_held3 (fun w' => w'.cell? ⟨b2, o + k * 6, none⟩ = some (.int .i64 a) ∧ w'.cell? ⟨b2, o + k * 6 + 1, none⟩ = some (.int .i64 b) ∧ w'.cell? ⟨b2, o + k * 6 + 2, none⟩ = some (.int .i64 c) ∧ w'.cell? ⟨b2, o + k * 6 + 3, none⟩ = some (.int .i64 d) ∧ w'.cell? ⟨b2, o + k * 6 + 4, none⟩ = some (.bool e) ∧ w'.cell? ⟨b2, o + k * 6 + 5, none⟩ = some (.int .i64 f))
        (first | go_keep | exact ⟨f0, f1, f2, f3, f4, f5⟩ | exact ⟨d0, d1, d2, d3, d4, d5⟩ | exact ⟨e0, e1, e2, e3, e4, e5⟩)
        (first | (go_at_call 7; ((with_reducible refine (C1.out _ SD.out).mono ?_); rintro E w3 ⟨rfl, hs3⟩; have S3 := Lib.hid hs3; have U3 := Lib.hid (both_under hs3); have d0 : w3.cell? ⟨b2, o + k * 6, none⟩ = some (.int .i64 a) := EC2.out w3 U3.out 0 (by decide); have d1 : w3.cell? ⟨b2, o + k * 6 + 1, none⟩ = some (.int .i64 b) := EC2.out w3 U3.out 1 (by decide); have d2 : w3.cell? ⟨b2, o + k * 6 + 2, none⟩ = some (.int .i64 c) := EC2.out w3 U3.out 2 (by decide); have d3 : w3.cell? ⟨b2, o + k * 6 + 3, none⟩ = some (.int .i64 d) := EC2.out w3 U3.out 3 (by decide); have d4 : w3.cell? ⟨b2, o + k * 6 + 4, none⟩ = some (.bool e) := EC2.out w3 U3.out 4 (by decide); have d5 : w3.cell? ⟨b2, o + k * 6 + 5, none⟩ = some (.int .i64 f) := EC2.out w3 U3.out 5 (by decide))) | (go_at_call 8; ((with_reducible refine (C2.out _ S3.out).mono ?_); rintro E w4 ⟨rfl, hs4⟩; have S4 := Lib.hid hs4; have U4 := Lib.hid (both_under hs4); have f0 : w4.cell? ⟨b2, o + k * 6, none⟩ = some (.int .i64 a) := EC2.out w4 U4.out 0 (by decide); have f1 : w4.cell? ⟨b2, o + k * 6 + 1, none⟩ = some (.int .i64 b) := EC2.out w4 U4.out 1 (by decide); have f2 : w4.cell? ⟨b2, o + k * 6 + 2, none⟩ = some (.int .i64 c) := EC2.out w4 U4.out 2 (by decide); have f3 : w4.cell? ⟨b2, o + k * 6 + 3, none⟩ = some (.int .i64 d) := EC2.out w4 U4.out 3 (by decide); have f4 : w4.cell? ⟨b2, o + k * 6 + 4, none⟩ = some (.bool e) := EC2.out w4 U4.out 4 (by decide); have f5 : w4.cell? ⟨b2, o + k * 6 + 5, none⟩ = some (.int .i64 f) := EC2.out w4 U4.out 5 (by decide))))
      all_goals
        have S5 := Lib.hid (SN.out _ S4.out)
        clear hs3 hs4 S3 S4 U3 U4 C1 C2 SN EC2 SD SB d0 d1 d2 d3 d4 d5 f0 f1 f2 f3 f4 f5 e0 e1 e2 e3 e4 e5
        go_wp2
        go_roundw
        case rel => exact ⟨k + 1, by omega, by go_num, S5⟩
        case measure => simp [RowKit.intOf]; omega
    · obtain rfl : k = n := by omega
      have SB2 : Both I w wr h g (runZ L) [] (runZ L) [] := by
        have hh := SB.out
        rwa [List.take_of_length_le (by rw [HLn.out]; exact Nat.le_refl _)] at hh
      have SB0 := Lib.hid SB2
      have GZ := Lib.hid (runZ_good L)
      have KZ := Lib.hid (show (runZ L).length ≤ 60 from Nat.le_trans (runZ_len _) (by have := HLn.out; omega))
      clear SB SB2 KL HL HLn hlt hk
      generalize runZ L = Z at *
      go_wp2_with fail
      go_loopw [10] (fun i wr => ∃ j : Nat, j ≤ m ∧ i = .int .i64 j ∧ Hid (Both I w wr h g Z (runP (M.take j)) Z (runP (M.take j)))) (fun i _ => m - (RowKit.intOf i).toNat)
      case atStart => exact ⟨0, Nat.zero_le _, rfl, SB0⟩
      case round =>
        clear SB0
        obtain ⟨j, hj, rfl, SB⟩ := hrel
        have HMn := Lib.hid HM.out.1
        have KL := Lib.hid (show (runP (M.take j)).length ≤ 60 from Nat.le_trans (runP_len _) (by have := HM.out.1; simp; omega))
        by_cases hlt : j < m
        · have hk3 : (j : Int) < (m : Int) := by omega
          obtain ⟨b2, o, hp, hc⟩ := HM.out.2 (by omega)
          obtain ⟨y, hy⟩ : ∃ y, M[j]? = some y := ⟨_, List.getElem?_eq_getElem (by rw [HMn.out]; exact hlt)⟩
          subst hp
          have EC := Lib.hid (fun (W : World) (hW : Below w.heap.size w W) => ((HM.out.keep pcells_len hW).2 (by omega)))
          have EC2 := Lib.hid (fun (W : World) (hW : Below w.heap.size w W) i (hi : i < 3) => show W.cell? ⟨b2, o + j * 3 + i, none⟩ = (pcells y)[i]? by
            obtain ⟨b3, o3, e3, hc3⟩ := EC.out W hW
            injection e3 with e3
            injection e3 with e4 e5
            subst e4 e5
            exact hc3 j y hy i hi)
          have TK := Lib.hid (show runP (M.take (j + 1)) = (addP (runP (M.take j)) y).2 by rw [takeZ hy, runP_snoc])
          clear hc hy EC HM
          have GP := Lib.hid (runP_good (M.take j))
          generalize runP (M.take j) = S at *
          have C1 := Lib.hid (fun W (hs : Both I w W h g Z S Z S) => both_P1 hs GP.out (by have := KL.out; omega) y)
          have C2 := Lib.hid (fun W (hs : Both I w W h g Z (addP S y).2 Z S) => both_P2 hs (by have := KL.out; omega) y)
          have SN := Lib.hid (fun W (hs : Both I w W h g Z (addP S y).2 Z (addP S y).2) => show Both I w W h g Z (runP (M.take (j + 1))) Z (runP (M.take (j + 1))) by rw [TK.out]; exact hs)
          clear TK GP KL
          generalize (addP S y).2 = S2 at *
          generalize (addP S y).1 = er at *
          obtain ⟨a, b, c⟩ := y
          unfold pval at C1 C2
          have SD := Lib.hid (both_below SB.out ((Below.refl _ wr).drew))
          have hu := Lib.hid (both_under SB.out)
          have e0 : wr.cell? ⟨b2, o + j * 3, none⟩ = some (.int .i64 a) := EC2.out wr hu.out 0 (by decide)
          have e1 : wr.cell? ⟨b2, o + j * 3 + 1, none⟩ = some (.int .i64 b) := EC2.out wr hu.out 1 (by decide)
          have e2 : wr.cell? ⟨b2, o + j * 3 + 2, none⟩ = some (.int .i64 c) := EC2.out wr hu.out 2 (by decide)
          simp only at C1 C2
          go_wp2_with fail
          go_region_held3 (fun w' => w'.cell? ⟨b2, o + j * 3, none⟩ = some (.int .i64 a) ∧ w'.cell? ⟨b2, o + j * 3 + 1, none⟩ = some (.int .i64 b) ∧ w'.cell? ⟨b2, o + j * 3 + 2, none⟩ = some (.int .i64 c))
            (first | go_keep | exact ⟨f0, f1, f2⟩ | exact ⟨d0, d1, d2⟩ | exact ⟨e0, e1, e2⟩)
            (first | (go_at_call 9; ((with_reducible refine (C1.out _ SD.out).mono ?_); rintro E w3 ⟨rfl, hs3⟩; have S3 := Lib.hid hs3; have U3 := Lib.hid (both_under hs3); have d0 : w3.cell? ⟨b2, o + j * 3, none⟩ = some (.int .i64 a) := EC2.out w3 U3.out 0 (by decide); have d1 : w3.cell? ⟨b2, o + j * 3 + 1, none⟩ = some (.int .i64 b) := EC2.out w3 U3.out 1 (by decide); have d2 : w3.cell? ⟨b2, o + j * 3 + 2, none⟩ = some (.int .i64 c) := EC2.out w3 U3.out 2 (by decide))) | (go_at_call 10; ((with_reducible refine (C2.out _ S3.out).mono ?_); rintro E w4 ⟨rfl, hs4⟩; have S4 := Lib.hid hs4; have U4 := Lib.hid (both_under hs4); have f0 : w4.cell? ⟨b2, o + j * 3, none⟩ = some (.int .i64 a) := EC2.out w4 U4.out 0 (by decide); have f1 : w4.cell? ⟨b2, o + j * 3 + 1, none⟩ = some (.int .i64 b) := EC2.out w4 U4.out 1 (by decide); have f2 : w4.cell? ⟨b2, o + j * 3 + 2, none⟩ = some (.int .i64 c) := EC2.out w4 U4.out 2 (by decide))))
          all_goals
            have S5 := Lib.hid (SN.out _ S4.out)
            clear hs3 hs4 S3 S4 U3 U4 C1 C2 SN EC2 SD SB d0 d1 d2 f0 f1 f2 e0 e1 e2
            go_wp2
            go_roundw
            case rel => exact ⟨j + 1, by omega, by go_num, S5⟩
            case measure => simp [RowKit.intOf]; omega
        · obtain rfl : j = m := by omega
          have SB2 : Both I w wr h g Z (runP M) Z (runP M) := by
            have hh := SB.out
            rwa [List.take_of_length_le (by rw [HMn.out]; exact Nat.le_refl _)] at hh
          have S0 := Lib.hid SB2
          have GP := Lib.hid (runP_good M)
          have KP := Lib.hid (show (runP M).length ≤ 60 from Nat.le_trans (runP_len _) (by have := HMn.out; omega))
          clear SB SB2 KL HM HMn hlt hj
          generalize runP M = P at *
          have CZ1 := Lib.hid (fun W (hs : Both I w W h g Z P Z P) => both_rowZ1 hs H0.out H1.out)
          have CZ2 := Lib.hid (fun W (hs : Both I w W h g Z P Z P) => both_rowZ2 hs (by have := KZ.out; omega) id)
          have CP1 := Lib.hid (fun W (hs : Both I w W h g Z P Z P) => both_rowP1 hs H0.out H1.out)
          have CP2 := Lib.hid (fun W (hs : Both I w W h g Z P Z P) => both_rowP2 hs (by have := KP.out; omega) id)
          generalize getK (findK Zn.id id Z) zn0 = gz at *
          generalize getK (findK Pd.id id P) pd0 = gp at *
          obtain ⟨⟨a, b, c1, d1, e1, f1⟩, ez⟩ := gz
          obtain ⟨⟨pa, pb, pc⟩, ep⟩ := gp
          unfold zval pval at *
          simp only at CZ1 CZ2 CP1 CP2
          obtain ⟨nz, hnz⟩ : ∃ nz, Z.length = nz := ⟨_, rfl⟩
          obtain ⟨np, hnp⟩ : ∃ np, P.length = np := ⟨_, rfl⟩
          have AZ := Lib.hid (fun W (hs : Both I w W h g Z P Z P) => both_allZ hs GZ.out (by have := KZ.out; omega) hnz)
          have AP := Lib.hid (fun W (hs : Both I w W h g Z P Z P) => both_allP hs GP.out (by have := KP.out; omega) hnp)
          have DZ := Lib.hid (fun W (hs : Both I w W h g Z P Z P) => both_cellZ hs hnz)
          have DP := Lib.hid (fun W (hs : Both I w W h g Z P Z P) => both_cellP hs hnp)
          have RZ := Lib.hid (fun W q c q' c' (x1 : LayZ W q nz Z) (x2 : LayZ W q' nz Z) => (rsameZ_any q q' nz nz c c' Z Z W (by have := KZ.out; omega) x1 x2).mono (fun e w' (hh : e = .returned (.bool (decide (Z = Z))) ∧ ∃ j, w' = W.drewN j) => show e = .returned (.bool true) ∧ ∃ j, w' = W.drewN j from ⟨by rw [hh.1]; simp, hh.2⟩))
          have RP := Lib.hid (fun W q c q' c' (x1 : LayP W q np P) (x2 : LayP W q' np P) => (rsameP_any q q' np np c c' P P W (by have := KP.out; omega) x1 x2).mono (fun e w' (hh : e = .returned (.bool (decide (P = P))) ∧ ∃ j, w' = W.drewN j) => show e = .returned (.bool true) ∧ ∃ j, w' = W.drewN j from ⟨by rw [hh.1]; simp, hh.2⟩))
          clear hnz hnp GZ GP KZ KP H0 H1
          go_wp2_with fail
          refine (CZ1.out _ S0.out).mono ?_
          rintro e v1 ⟨rfl, hs, _⟩
          have S1 := Lib.hid (both_below hs (alloc_below v1 (.cells #[.int .i64 a, .int .i64 b, .int .i64 c1, .int .i64 d1, .bool e1, .int .i64 f1] 33)))
          have XA1 := Lib.hid (Lies.new v1 33 #[.int .i64 a, .int .i64 b, .int .i64 c1, .int .i64 d1, .bool e1, .int .i64 f1])
          clear hs S0 CZ1
          go_wp2_with fail
          refine (CZ2.out _ S1.out).mono ?_
          rintro e v2 ⟨rfl, hs, hb⟩
          have S2 := Lib.hid (both_below hs (alloc_below v2 (.cells #[.int .i64 a, .int .i64 b, .int .i64 c1, .int .i64 d1, .bool e1, .int .i64 f1] 33)))
          have XA2 := Lib.hid ((XA1.out.below hb XA1.out.lt).alloc (.cells #[.int .i64 a, .int .i64 b, .int .i64 c1, .int .i64 d1, .bool e1, .int .i64 f1] 33))
          have XB2 := Lib.hid (Lies.new v2 33 #[.int .i64 a, .int .i64 b, .int .i64 c1, .int .i64 d1, .bool e1, .int .i64 f1])
          clear hs hb S1 CZ2 XA1
          go_wp2_with fail
          refine (CP1.out _ S2.out).mono ?_
          rintro e v3 ⟨rfl, hs, hb⟩
          have S3 := Lib.hid (both_below hs (alloc_below v3 (.cells #[.int .i64 pa, .int .i64 pb, .int .i64 pc] 36)))
          have XA3 := Lib.hid ((XA2.out.below hb XA2.out.lt).alloc (.cells #[.int .i64 pa, .int .i64 pb, .int .i64 pc] 36))
          have XB3 := Lib.hid ((XB2.out.below hb XB2.out.lt).alloc (.cells #[.int .i64 pa, .int .i64 pb, .int .i64 pc] 36))
          have XC3 := Lib.hid (Lies.new v3 36 #[.int .i64 pa, .int .i64 pb, .int .i64 pc])
          clear hs hb S2 CP1 XA2 XB2
          go_wp2_with fail
          refine (CP2.out _ S3.out).mono ?_
          rintro e v4 ⟨rfl, hs, hb⟩
          have S4 := Lib.hid (both_below hs (alloc_below v4 (.cells #[.int .i64 pa, .int .i64 pb, .int .i64 pc] 36)))
          have XA4 := Lib.hid ((XA3.out.below hb XA3.out.lt).alloc (.cells #[.int .i64 pa, .int .i64 pb, .int .i64 pc] 36))
          have XB4 := Lib.hid ((XB3.out.below hb XB3.out.lt).alloc (.cells #[.int .i64 pa, .int .i64 pb, .int .i64 pc] 36))
          have XC4 := Lib.hid ((XC3.out.below hb XC3.out.lt).alloc (.cells #[.int .i64 pa, .int .i64 pb, .int .i64 pc] 36))
          have XD4 := Lib.hid (Lies.new v4 36 #[.int .i64 pa, .int .i64 pb, .int .i64 pc])
          clear hs hb S3 CP2 XA3 XB3 XC3
          go_wp2_with fail
          obtain ⟨w5, hw5⟩ : ∃ w5, v4.alloc (.cells #[.int .i64 pa, .int .i64 pb, .int .i64 pc] 36) = w5 := ⟨_, rfl⟩
          rw [hw5] at S4 XA4 XB4 XC4 XD4 ⊢
          clear hw5
          obtain ⟨q0, c0, m0, hl0, hg0⟩ := DZ.out _ S4.out
          have L0 := Lib.hid hl0
          have SD := Lib.hid (both_below S4.out ((Below.refl _ w5).drew))
          clear hl0 DZ
          go_region_held3 (fun w' => w'.cell? ⟨g, 0, none⟩ = some (.slice q0 nz c0))
            (first | go_keep | exact m2 | exact m1 | exact m0)
            (first | (go_at_call 16; ((with_reducible refine (AZ.out _ SD.out).mono ?_); rintro E w6 ⟨q1, c1', rfl, hl1, hb1, hs1⟩; have m1 := (hb1.cell (p := ⟨g, 0, none⟩) hg0).trans m0; have L1 := Lib.hid hl1; have L2 := Lib.hid (show LayZ w6 q0 nz Z from Rw.keep L0.out zcells_len (show Below w5.heap.size w5 w6 from ((Below.refl _ w5).drew).trans hb1)))) | (go_at_call 15; ((with_reducible refine (RZ.out _ _ _ _ _ L1.out L2.out).mono ?_); rintro E w7 ⟨rfl, jj, rfl⟩; have m2 : (w6.drewN jj).cell? ⟨g, 0, none⟩ = some (.slice q0 nz c0) := m1)))
          all_goals
            have S7 := Lib.hid (both_below hs1 (below_drewN (Below.refl _ w6) jj))
            have HB7 : Below w5.heap.size w5 (w6.drewN jj) := below_drewN ((Below.refl _ w5).drew.trans hb1) jj
            have XA7 := Lib.hid (XA4.out.below HB7 XA4.out.lt)
            have XB7 := Lib.hid (XB4.out.below HB7 XB4.out.lt)
            have XC7 := Lib.hid (XC4.out.below HB7 XC4.out.lt)
            have XD7 := Lib.hid (XD4.out.below HB7 XD4.out.lt)
            obtain ⟨w8, hw8⟩ : ∃ w8, w6.drewN jj = w8 := ⟨_, rfl⟩
            rw [hw8] at S7 XA7 XB7 XC7 XD7
            clear HB7 m0 m1 m2 hl1 hb1 hs1 L0 L1 L2 SD S4 XA4 XB4 XC4 XD4 AZ RZ hg0
            have HW8 := Lib.hid hw8
            clear hw8
            go_wp2_with fail
            rw [HW8.out]
            clear HW8
            obtain ⟨q2, c2, n0, hl0, hg0⟩ := DP.out _ S7.out
            have L0 := Lib.hid hl0
            have SD := Lib.hid (both_below S7.out ((Below.refl _ w8).drew))
            clear hl0 DP
            go_region_held3 (fun w' => w'.cell? ⟨g, 1, none⟩ = some (.slice q2 np c2))
              (first | go_keep | exact n2 | exact n1 | exact n0)
              (first | (go_at_call 18; ((with_reducible refine (AP.out _ SD.out).mono ?_); rintro E w9 ⟨q3, c3', rfl, hl1, hb1, hs1⟩; have n1 := (hb1.cell (p := ⟨g, 1, none⟩) hg0).trans n0; have L1 := Lib.hid hl1; have L2 := Lib.hid (show LayP w9 q2 np P from Rw.keep L0.out pcells_len (show Below w8.heap.size w8 w9 from ((Below.refl _ w8).drew).trans hb1)))) | (go_at_call 17; ((with_reducible refine (RP.out _ _ _ _ _ L1.out L2.out).mono ?_); rintro E w10 ⟨rfl, j2, rfl⟩; have n2 : (w9.drewN j2).cell? ⟨g, 1, none⟩ = some (.slice q2 np c2) := n1)))
            all_goals
              have B10 := Lib.hid (both_under (both_below hs1 (below_drewN (Below.refl _ w9) j2)))
              have HB7 : Below w8.heap.size w8 (w9.drewN j2) := below_drewN ((Below.refl _ w8).drew.trans hb1) j2
              have XA8 := Lib.hid (XA7.out.below HB7 XA7.out.lt)
              have XB8 := Lib.hid (XB7.out.below HB7 XB7.out.lt)
              have XC8 := Lib.hid (XC7.out.below HB7 XC7.out.lt)
              have XD8 := Lib.hid (XD7.out.below HB7 XD7.out.lt)
              obtain ⟨w11, hw11⟩ : ∃ w11, w9.drewN j2 = w11 := ⟨_, rfl⟩
              rw [hw11] at B10 XA8 XB8 XC8 XD8
              clear HB7 n0 n1 n2 hl1 hb1 hs1 L0 L1 L2 SD S7 XA7 XB7 XC7 XD7 AP RP hg0
              have HW8 := Lib.hid hw11
              clear hw11
              go_wp2_with fail
              rw [HW8.out]
              clear HW8
              refine (I.nil_zone 1 _).mono ?_
              rintro e w12 ⟨rfl, hb⟩
              have B12 := Lib.hid ((B10.out.trans (hb.mono B10.out.size)).alloc (Nat.le_trans B10.out.size hb.size) (.cells #[.int .i64 0, .int .i64 0, .int .i64 0, .int .i64 0, .bool false, .int .i64 0] 33))
              have XA9 := Lib.hid ((XA8.out.below hb XA8.out.lt).alloc (.cells #[.int .i64 0, .int .i64 0, .int .i64 0, .int .i64 0, .bool false, .int .i64 0] 33))
              have XB9 := Lib.hid ((XB8.out.below hb XB8.out.lt).alloc (.cells #[.int .i64 0, .int .i64 0, .int .i64 0, .int .i64 0, .bool false, .int .i64 0] 33))
              have XC9 := Lib.hid ((XC8.out.below hb XC8.out.lt).alloc (.cells #[.int .i64 0, .int .i64 0, .int .i64 0, .int .i64 0, .bool false, .int .i64 0] 33))
              have XD9 := Lib.hid ((XD8.out.below hb XD8.out.lt).alloc (.cells #[.int .i64 0, .int .i64 0, .int .i64 0, .int .i64 0, .bool false, .int .i64 0] 33))
              clear hb B10 XA8 XB8 XC8 XD8
              simp only [zval, zn0]
              go_wp2_with fail
              refine (I.nil_product 1 _).mono ?_
              rintro e w13 ⟨rfl, hb⟩
              have B13 := Lib.hid ((B12.out.trans (hb.mono B12.out.size)).alloc (Nat.le_trans B12.out.size hb.size) (.cells #[.int .i64 0, .int .i64 0, .int .i64 0] 36))
              have XA10 := Lib.hid ((XA9.out.below hb XA9.out.lt).alloc (.cells #[.int .i64 0, .int .i64 0, .int .i64 0] 36))
              have XB10 := Lib.hid ((XB9.out.below hb XB9.out.lt).alloc (.cells #[.int .i64 0, .int .i64 0, .int .i64 0] 36))
              have XC10 := Lib.hid ((XC9.out.below hb XC9.out.lt).alloc (.cells #[.int .i64 0, .int .i64 0, .int .i64 0] 36))
              have XD10 := Lib.hid ((XD9.out.below hb XD9.out.lt).alloc (.cells #[.int .i64 0, .int .i64 0, .int .i64 0] 36))
              clear hb B12 XA9 XB9 XC9 XD9
              simp only [pval, pd0]
              go_wp2_with fail
              refine (alive_any I _).mono ?_
              rintro e w14 ⟨rfl, hb⟩
              have B14 := Lib.hid (B13.out.trans (hb.mono B13.out.size))
              have XA11 := Lib.hid (XA10.out.below hb XA10.out.lt)
              have XB11 := Lib.hid (XB10.out.below hb XB10.out.lt)
              have XC11 := Lib.hid (XC10.out.below hb XC10.out.lt)
              have XD11 := Lib.hid (XD10.out.below hb XD10.out.lt)
              clear hb B13 XA10 XB10 XC10 XD10
              have xa0 : w14.cell? ⟨v1.heap.size, 0, none⟩ = some (.int .i64 a) := XA11.out.cell 0
              have xa1 : w14.cell? ⟨v1.heap.size, 1, none⟩ = some (.int .i64 b) := XA11.out.cell 1
              have xa2 : w14.cell? ⟨v1.heap.size, 2, none⟩ = some (.int .i64 c1) := XA11.out.cell 2
              have xa3 : w14.cell? ⟨v1.heap.size, 3, none⟩ = some (.int .i64 d1) := XA11.out.cell 3
              have xa4 : w14.cell? ⟨v1.heap.size, 4, none⟩ = some (.bool e1) := XA11.out.cell 4
              have xa5 : w14.cell? ⟨v1.heap.size, 5, none⟩ = some (.int .i64 f1) := XA11.out.cell 5
              have xb0 : w14.cell? ⟨v2.heap.size, 0, none⟩ = some (.int .i64 a) := XB11.out.cell 0
              have xb1 : w14.cell? ⟨v2.heap.size, 1, none⟩ = some (.int .i64 b) := XB11.out.cell 1
              have xb2 : w14.cell? ⟨v2.heap.size, 2, none⟩ = some (.int .i64 c1) := XB11.out.cell 2
              have xb3 : w14.cell? ⟨v2.heap.size, 3, none⟩ = some (.int .i64 d1) := XB11.out.cell 3
              have xb4 : w14.cell? ⟨v2.heap.size, 4, none⟩ = some (.bool e1) := XB11.out.cell 4
              have xb5 : w14.cell? ⟨v2.heap.size, 5, none⟩ = some (.int .i64 f1) := XB11.out.cell 5
              have xc0 : w14.cell? ⟨v3.heap.size, 0, none⟩ = some (.int .i64 pa) := XC11.out.cell 0
              have xc1 : w14.cell? ⟨v3.heap.size, 1, none⟩ = some (.int .i64 pb) := XC11.out.cell 1
              have xc2 : w14.cell? ⟨v3.heap.size, 2, none⟩ = some (.int .i64 pc) := XC11.out.cell 2
              have xd0 : w14.cell? ⟨v4.heap.size, 0, none⟩ = some (.int .i64 pa) := XD11.out.cell 0
              have xd1 : w14.cell? ⟨v4.heap.size, 1, none⟩ = some (.int .i64 pb) := XD11.out.cell 1
              have xd2 : w14.cell? ⟨v4.heap.size, 2, none⟩ = some (.int .i64 pc) := XD11.out.cell 2
              go_wp2_with fail
              clear xa0 xa1 xa2 xa3 xa4 xa5 xb0 xb1 xb2 xb3 xb4 xb5 xc0 xc1 xc2 xd0 xd1 xd2
              refine (show Calls _ _ #[_, zval ⟨1, 0, 0, 0, false, 0⟩] _ _ from I.nil_addZ _ _).mono ?_
              rintro e w15 ⟨rfl, hb⟩
              have B15 := Lib.hid (B14.out.trans (hb.mono B14.out.size))
              clear hb B14 XA11 XB11 XC11 XD11
              go_wp2_with fail
              refine (show Calls _ _ #[_, pval ⟨1, 0, 0⟩] _ _ from I.nil_addP _ _).mono ?_
              rintro e w16 ⟨rfl, hb⟩
              have B16 := Lib.hid (B15.out.trans (hb.mono B15.out.size))
              clear hb B15
              go_wp2_with fail
              refine (I.nil_zones _).mono ?_
              rintro e w17 ⟨rfl, hb⟩
              have B17 := Lib.hid (B16.out.trans (hb.mono B16.out.size))
              clear hb B16
              go_wp2_with fail
              refine (I.nil_products _).mono ?_
              rintro e w18 ⟨rfl, hb⟩
              have B18 := Lib.hid (B17.out.trans (hb.mono B17.out.size))
              clear hb B17
              go_wp2
              go_ret
              exact ⟨rfl, B18.out⟩
end Ms
end Go.Proofs.Ytpceoklacpcfkaa
