/- Walks over package check: bytes that are sealed and opened. No condition but those written. -/
import Derived.Test.YtklhapekfgcplaaCk1
import Derived.Test.YtklhapekfgcplaaClone
namespace Go.Proofs.Ytklhapekfgcplaa
open Go.RowKit

namespace Ck
set_option maxRecDepth 100000 in
set_option maxHeartbeats 1000000 in
theorem grow_any (k : Nat) (w : World) (h0 : 0 < k) (hk : k ≤ 2000000) :
    Calls Try.prog 48 #[.slice none 0 0, .int .i64 (k : Int)] w fun e w' => ∃ c, e = .returned (.slice (some ⟨w.heap.size, 0, none⟩) 0 c) ∧ w'.ownsRow w.heap.size 5 1 (.slice (some ⟨w.heap.size, 0, none⟩) 0 c) 0 [] ∧ Below w.heap.size w w' := by
  obtain ⟨i0, hi, hz0, hz1, hz2⟩ := info_parts info5
  have hr := Lib.run_append_nil_zeros w 24 3 24 5 i0 _ .i64 .i64 Try.underlying24 Try.underlying3 hi hz0 k h0 (by omega) (by omega) (by rw [hz2]; omega)
  have R := Lib.hid hr
  clear hr
  have hp : (0 : Int) < (k : Int) := by omega
  go_enter Try.func48, Try.ntmps48
  go_wp2_with (at_builtin; refine Lib.wpList_append_run w rfl (.tmp 20) (.tmp 21) 24 3 rfl _ _ rfl rfl _ _ R.out ?_)
  go_ret
  have hge := grownCap_ge w k 0 5
  have hle := grownCap_le_maxLen w k 0 5 (by unfold maxLen; omega)
  refine ⟨grownCap w k 0 5, rfl, ?_, ((Below.refl _ w).alloc (Nat.le_refl _) _).drew⟩
  refine World.ownsRow_made w _ (grownCap w k 0 5) (Nat.le_refl _) hle ?_
  rw [Array.size_append, size_zeroCells, size_zeroCells]
  show k * 1 + (grownCap w k 0 5 - k) * 1 = _
  omega
/-- Two lists of bytes in a row. -/
def Pair (w : World) (B : Nat) (p : Option Addr) (n c : Nat) (q : Option Addr) (d : Nat) : Prop :=
  w.cell? ⟨B, 0, none⟩ = some (.slice p n c) ∧ w.cell? ⟨B, 1, none⟩ = some (.slice q 2 d)
set_option maxRecDepth 100000 in
set_option maxHeartbeats 1000000 in
theorem concat_own (B n c d : Nat) (p q : Option Addr) (l m : List Nat) (w : World) (hn : n ≤ 1000000) (h : Pair w B p n c q d) (hl : At w p n l) (hm : At w q 2 m) :
    Calls Try.prog 37 #[.slice (some ⟨B, 0, none⟩) 2 2] w fun e w' => ∃ v, e = .returned v ∧ w'.ownsRow w.heap.size 5 1 v (n + 2) (bys (l ++ m)) ∧ Below w.heap.size w w' := by
  obtain ⟨c0, c1⟩ := h
  have b0 : B < w.heap.size := World.block_lt_of_cell? w _ c0
  have HL := Lib.hid hl
  have HM := Lib.hid hm
  clear hl hm
  go_enter Try.func37, Try.ntmps37
  go_wp2
  go_loop [3, 11] (fun s i => (i = .int .i64 0 ∧ s = .int .i64 0) ∨ (i = .int .i64 1 ∧ s = .int .i64 n) ∨ (i = .int .i64 2 ∧ s = .int .i64 ((n : Int) + 2))) (fun _ i => 2 - (RowKit.intOf i).toNat)
  case atStart => exact .inl ⟨rfl, rfl⟩
  case round =>
    rcases hrel with ⟨rfl, rfl⟩ | ⟨rfl, rfl⟩ | ⟨rfl, rfl⟩
    · go_wp2
      go_round
      case rel => exact .inr (.inl ⟨rfl, by go_num⟩)
      case measure => simp [RowKit.intOf]
    · go_wp2
      go_round
      case rel => exact .inr (.inr ⟨rfl, by go_num⟩)
      case measure => simp [RowKit.intOf]
    · have G := grow_any (n + 2) w (by omega) (by omega)
      have X : ((n + 2 : Nat) : Int) = (n : Int) + 2 := by omega
      rw [X] at G
      have G' := Lib.hid G
      clear G X
      go_wp2_with fail
      refine G'.out.mono ?_
      rintro e w1 ⟨f, rfl, hown, hb⟩
      have HO := Lib.hid hown
      have HB := Lib.hid hb
      have C0 := (hb.cell (p := ⟨B, 0, none⟩) b0).trans c0
      have C1 := (hb.cell (p := ⟨B, 1, none⟩) b0).trans c1
      have hz := hb.size
      clear hown hb c0 c1
      go_wp2
      go_loopw [6, 27] (fun v i wr => wr.cell? ⟨B, 0, none⟩ = some (.slice p n c) ∧ wr.cell? ⟨B, 1, none⟩ = some (.slice q 2 d) ∧ Below w.heap.size w wr ∧
        ((i = .int .i64 0 ∧ wr.ownsRow w.heap.size 5 1 v 0 []) ∨ (i = .int .i64 1 ∧ wr.ownsRow w.heap.size 5 1 v n (bys l)) ∨ (i = .int .i64 2 ∧ wr.ownsRow w.heap.size 5 1 v (n + 2) (bys (l ++ m))))) (fun _ i _ => 2 - (RowKit.intOf i).toNat)
      case atStart => exact ⟨C0, C1, HB.out, .inl ⟨rfl, HO.out⟩⟩
      case round =>
        clear C0 C1 HB HO hz
        obtain ⟨k0, k1, hb, hor⟩ := hrel
        have HB := Lib.hid hb
        have hz := hb.size
        clear hb
        rcases hor with ⟨rfl, hown⟩ | ⟨rfl, hown⟩ | ⟨rfl, hown⟩
        · have HO := Lib.hid hown
          clear hown
          go_wp2_with (at_builtin; refine wpList_app rfl (.tmp 31) (.tmp 32) rfl w.heap.size _ 0 [] rfl HO.out p n c l rfl (HL.out.keep HB.out) (by omega) hz ?_; intro v2 w2 hown2 hg2 hat2)
          have HB2 := next_below HO.out hg2 HB.out
          have K0 := next_cell b0 HO.out hg2 k0
          have K1 := next_cell b0 HO.out hg2 k1
          have HO2 : w2.ownsRow w.heap.size 5 1 v2 n (bys l) := by simpa using hown2
          clear hown2 hg2 hat2 k0 k1
          go_roundw
          case rel => exact ⟨K0, K1, HB2, .inr (.inl ⟨rfl, HO2⟩)⟩
          case measure => simp [RowKit.intOf]
        · have HO := Lib.hid hown
          clear hown
          go_wp2_with (at_builtin; refine wpList_app rfl (.tmp 31) (.tmp 32) rfl w.heap.size _ n (bys l) rfl HO.out q 2 d m rfl (HM.out.keep HB.out) (by omega) hz ?_; intro v2 w2 hown2 hg2 hat2)
          have HB2 := next_below HO.out hg2 HB.out
          have K0 := next_cell b0 HO.out hg2 k0
          have K1 := next_cell b0 HO.out hg2 k1
          have HO2 : w2.ownsRow w.heap.size 5 1 v2 (n + 2) (bys (l ++ m)) := by rw [bys_append]; exact hown2
          clear hown2 hg2 hat2 k0 k1
          go_roundw
          case rel => exact ⟨K0, K1, HB2, .inr (.inr ⟨rfl, HO2⟩)⟩
          case measure => simp [RowKit.intOf]
        · have HO := Lib.hid hown
          clear hown
          go_wp2
          go_ret
          exact ⟨_, rfl, HO.out, HB.out⟩
theorem concat_any (B n c d : Nat) (p q : Option Addr) (l m : List Nat) (w : World) (hn : n ≤ 1000000) (h : Pair w B p n c q d) (hl : At w p n l) (hm : At w q 2 m) :
    Calls Try.prog 37 #[.slice (some ⟨B, 0, none⟩) 2 2] w fun e w' => ∃ r f, e = .returned (.slice r (n + 2) f) ∧ n + 2 ≤ f ∧ At w' r (n + 2) (l ++ m) ∧ Below w.heap.size w w' :=
  (concat_own B n c d p q l m w hn h hl hm).mono fun e w' ⟨v, he, ho, hb⟩ => by
    obtain ⟨r, f2, rfl, hd, hA⟩ := at_own (by rw [List.length_append, hl.1, hm.1]) (fun x hx => by
      rcases List.mem_append.1 hx with hx | hx
      · exact hl.2.1 x hx
      · exact hm.2.1 x hx) ho
    exact ⟨r, f2, he, hd, hA, hb⟩
theorem two_made (w : World) (u v : Nat) (p : Option Addr) (n c : Nat) :
    Below w.heap.size w ((w.alloc (.cells #[.int .u8 (u : Int), .int .u8 (v : Int)] 5)).alloc (.cells #[.slice p n c, .slice (some ⟨w.heap.size, 0, none⟩) 2 2] 24)) :=
  ((Below.refl _ w).alloc (Nat.le_refl _) _).alloc (size_alloc _ _) _
theorem pair_made (w : World) (u v : Nat) (p : Option Addr) (n c : Nat) :
    Pair ((w.alloc (.cells #[.int .u8 (u : Int), .int .u8 (v : Int)] 5)).alloc (.cells #[.slice p n c, .slice (some ⟨w.heap.size, 0, none⟩) 2 2] 24)) (w.heap.size + 1) p n c (some ⟨w.heap.size, 0, none⟩) 2 := by
  have e : (w.alloc (.cells #[.int .u8 (u : Int), .int .u8 (v : Int)] 5)).heap.size = w.heap.size + 1 := by simp
  have h := heap_alloc_new (w.alloc (.cells #[.int .u8 (u : Int), .int .u8 (v : Int)] 5)) (.cells #[.slice p n c, .slice (some ⟨w.heap.size, 0, none⟩) 2 2] 24)
  rw [e] at h
  constructor
  · rw [cell_of_row _ (w.heap.size + 1) 0 _ 24 (0, 0) h]
    rfl
  · rw [cell_of_row _ (w.heap.size + 1) 1 _ 24 (0, 0) h]
    rfl
set_option maxRecDepth 100000 in
set_option maxHeartbeats 1000000 in
theorem seal_own (p : Option Addr) (n c : Nat) (l : List Nat) (w : World) (hn : n ≤ 1000000) (h : At w p n l) :
    Calls Try.prog 26 #[.slice p n c] w fun e w' => ∃ v, e = .returned v ∧ w'.ownsRow w.heap.size 5 1 v (n + 2) (bys (tight l)) ∧ Below w.heap.size w w' := by
  have hx := h.2.1
  have hc : Ck.crc 65535 l < 65536 := Ck.crc_lt (by decide) hx
  have O := Lib.hid (of_any p n c l w (by omega) h)
  have HT := Lib.hid (tight_eq l)
  have HA := Lib.hid h
  clear hx h
  have q1 : (Ck.crc 65535 l : Int) / 256 = ((Ck.crc 65535 l / 256 : Nat) : Int) := by omega
  have q2 : (Ck.crc 65535 l : Int) % 256 = ((Ck.crc 65535 l % 256 : Nat) : Int) := by omega
  have r1 : Ck.crc 65535 l / 256 < 256 := by omega
  have r2 : Ck.crc 65535 l % 256 < 256 := by omega
  generalize Ck.crc 65535 l / 256 = u at *
  generalize Ck.crc 65535 l % 256 = v at *
  generalize Ck.crc 65535 l = s at *
  go_enter Try.func26, Try.ntmps26
  go_wp2_with fail
  refine O.out.mono ?_
  rintro e w' ⟨rfl, rfl⟩
  have C := concat_own (w.heap.size + 1) n c 2 p (some ⟨w.heap.size, 0, none⟩) l [u, v] _ hn (pair_made w u v p n c) (HA.out.keep (two_made w u v p n c)) ((at_pair w u v r1 r2).keep ((Below.refl _ _).alloc (Nat.le_refl _) _))
  have C' := Lib.hid C
  clear C
  go_wp2_with fail
  refine C'.out.mono ?_
  rintro e w1 ⟨v1, rfl, hA, hb⟩
  have HA1 := Lib.hid hA
  have HB1 := Lib.hid hb
  clear hA hb
  go_wp2
  go_ret
  refine ⟨v1, rfl, by rw [HT.out]; exact HA1.out.mono (two_made w u v p n c).size, ?_⟩
  exact (two_made w u v p n c).trans (HB1.out.mono (two_made w u v p n c).size)
theorem seal_any (p : Option Addr) (n c : Nat) (l : List Nat) (w : World) (hn : n ≤ 1000000) (h : At w p n l) :
    Calls Try.prog 26 #[.slice p n c] w fun e w' => ∃ q d, e = .returned (.slice q (n + 2) d) ∧ n + 2 ≤ d ∧ At w' q (n + 2) (tight l) ∧ Below w.heap.size w w' :=
  (seal_own p n c l w hn h).mono fun e w' ⟨v, he, ho, hb⟩ => by
    obtain ⟨r, f2, rfl, hd, hA⟩ := at_own (by rw [tight_length, h.1]) (tight_lt h.2.1) ho
    exact ⟨r, f2, he, hd, hA, hb⟩
theorem open_no (p : Option Addr) (n c : Nat) (l : List Nat) (w : World) (hbig : n ≤ 9223372036854775807) (hnc : n ≤ c) (h : At w p n l) (hg : Ck.goodB l = false) :
    Calls Try.prog 29 #[.slice p n c] w fun e w' => e = .returned (.tuple #[.slice none 0 0, .bool false]) ∧ ∃ m, w' = w.drewN m := by
  have G := Lib.hid (hg ▸ good_any p n c l w hbig hnc h)
  clear h hg
  go_enter Try.func29, Try.ntmps29
  go_wp2_with fail
  refine G.out.mono ?_
  rintro e w' ⟨rfl, k, rfl⟩
  go_wp2
  go_ret2
  exact ⟨rfl, k, rfl⟩
set_option maxRecDepth 100000 in
theorem open_yes (p : Option Addr) (n c : Nat) (l : List Nat) (w : World) (hbig : n + 2 ≤ 1000000) (hnc : n + 2 ≤ c) (h : At w p (n + 2) l) (hg : Ck.goodB l = true) :
    Calls Try.prog 29 #[.slice p (n + 2) c] w fun e w' => ∃ q d, e = .returned (.tuple #[.slice q n d, .bool true]) ∧ n ≤ d ∧ At w' q n (l.take n) ∧ Below w.heap.size w w' := by
  have G := Lib.hid (hg ▸ good_any p (n + 2) c l w (by omega) hnc h)
  have C := fun k => clone_any p n c (l.take n) (w.drewN k) (by omega) ((h.take n (by omega)).drewN k)
  have C' := Lib.hid C
  clear h hg C
  go_enter Try.func29, Try.ntmps29
  go_wp2_with fail
  refine G.out.mono ?_
  rintro e w' ⟨rfl, k, rfl⟩
  go_wp2_with fail
  refine (C'.out k).mono ?_
  rintro e w1 ⟨q, d, rfl, hd, hA, hb⟩
  have HA := Lib.hid hA
  have HB := Lib.hid hb
  clear hA hb
  go_wp2
  go_ret2
  exact ⟨q, d, rfl, hd, HA.out, (below_drewN (Below.refl _ w) k).trans HB.out⟩
end Ck
end Go.Proofs.Ytklhapekfgcplaa
