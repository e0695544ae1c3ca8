/- Walks over the live question and the law that holds package check against the document's answer: each call returns true. Condition: the list's cells hold bytes. -/
import Derived.Test.YtpcpfcbcmenliaaW3
import Derived.DataShut
namespace Go.Proofs.Ytpcpfcbcmenliaa
open Go.RowKit

theorem own : ownKnob Try.prog.godebug = none := by kernel_rfl

theorem good_tight {l : List Nat} (hl : ∀ x ∈ l, x < 256) : Ck.goodB (tight l) = true := by
  have hc : Ck.crc 65535 l < 65536 := Ck.crc_lt (by decide) hl
  rw [Ck.good_long (tight_length l), decide_eq_true_iff, tight_eq]
  have e1 : (l ++ [Ck.crc 65535 l / 256, Ck.crc 65535 l % 256]).getD l.length 0 = Ck.crc 65535 l / 256 := by simp [List.getD_eq_getElem?_getD]
  have e2 : (l ++ [Ck.crc 65535 l / 256, Ck.crc 65535 l % 256]).getD (l.length + 1) 0 = Ck.crc 65535 l % 256 := by simp [List.getD_eq_getElem?_getD]
  rw [e1, e2, List.take_left' rfl]
  omega

theorem tight_asked : tight [49, 50, 51, 52, 53, 54, 55, 56, 57] = [49, 50, 51, 52, 53, 54, 55, 56, 57, 41, 177] := by
  rw [tight_eq, show Ck.crc 65535 [49, 50, 51, 52, 53, 54, 55, 56, 57] = 10673 by decide +kernel]
  rfl
theorem bad_cut : Ck.goodB (([49, 50, 51, 52, 53, 54, 55, 56, 57, 41, 177] : List Nat).take 10) = false := by decide +kernel
theorem good_two : Ck.goodB [255, 255] = true := by decide +kernel
theorem at_nine (w : World) : At (w.alloc (.cells #[.int .u8 49, .int .u8 50, .int .u8 51, .int .u8 52, .int .u8 53, .int .u8 54, .int .u8 55, .int .u8 56, .int .u8 57] 5)) (some ⟨w.heap.size, 0, none⟩) 9 [49, 50, 51, 52, 53, 54, 55, 56, 57] := by
  refine ⟨rfl, by decide, fun _ => ⟨w.heap.size, 0, rfl, fun j hj => ?_⟩⟩
  rw [Nat.zero_add, cell_of_row _ w.heap.size j _ 5 (0, 0) (heap_alloc_new w _)]
  match j, hj with
  | 0, _ => rfl
  | 1, _ => rfl
  | 2, _ => rfl
  | 3, _ => rfl
  | 4, _ => rfl
  | 5, _ => rfl
  | 6, _ => rfl
  | 7, _ => rfl
  | 8, _ => rfl
theorem at_two (w : World) : At (w.alloc (.cells #[.int .u8 255, .int .u8 255] 5)) (some ⟨w.heap.size, 0, none⟩) 2 [255, 255] := at_pair w 255 255 (by decide) (by decide)
theorem at_nil (w : World) : At w none 0 [] := ⟨rfl, by simp, fun h => absurd h (by decide)⟩

theorem bad_nil (w : World) : Calls Try.prog 13 #[.slice none 0 0] w fun e w' => e = .returned (.bool false) ∧ ∃ m, w' = w.drewN m := by
  have h := good_any none 0 0 [] w (by decide) (by decide) (at_nil w)
  rwa [show Ck.goodB [] = false by decide +kernel] at h

set_option maxRecDepth 100000 in
set_option maxHeartbeats 2000000 in
/-- The live question. -/
theorem alive_any (w : World) : Calls Try.prog 5 #[] w fun e w' => e = .returned (.bool true) ∧ Below w.heap.size w w' := by
  have S := Lib.hid (seal_any _ 9 9 _ _ (by decide) (at_nine w))
  have hb0 : Below w.heap.size w (w.alloc (.cells #[.int .u8 49, .int .u8 50, .int .u8 51, .int .u8 52, .int .u8 53, .int .u8 54, .int .u8 55, .int .u8 56, .int .u8 57] 5)) := (Below.refl _ w).alloc (Nat.le_refl _) _
  have HB0 := Lib.hid hb0
  clear hb0
  go_enter Try.func5, Try.ntmps5
  go_wp2_with fail
  refine S.out.mono ?_
  rintro e w1 ⟨q, d, rfl, hd, hA, hb⟩
  have HB1 := Lib.hid (HB0.out.trans (hb.mono HB0.out.size))
  rw [tight_asked] at hA
  have O := Lib.hid (open_yes _ 0 2 _ _ (by decide) (by decide) (at_two w1) good_two)
  have hb1 : Below w1.heap.size w1 (w1.alloc (.cells #[.int .u8 255, .int .u8 255] 5)) := (Below.refl _ w1).alloc (Nat.le_refl _) _
  have HA := Lib.hid hA
  have HB2 := Lib.hid hb1
  clear hA hb hb1 HB0 S
  go_wp2_with fail
  refine O.out.mono ?_
  rintro e w2 ⟨q2, d2, rfl, hd2, hA2, hb2⟩
  have hW : Below w1.heap.size w1 w2 := HB2.out.trans (hb2.mono HB2.out.size)
  have hA' := HA.out.keep hW
  have HB3 := Lib.hid (HB1.out.trans (hW.mono HB1.out.size))
  clear hW hA2 hb2 HA HB1 HB2 O
  have hg := good_any q 11 d _ w2 (by decide) hd hA'
  rw [show Ck.goodB [49, 50, 51, 52, 53, 54, 55, 56, 57, 41, 177] = true by decide +kernel] at hg
  have G1 := Lib.hid hg
  clear hg
  have hg := fun k => good_any q 10 d _ (w2.drewN k) (by decide) (by omega) ((hA'.take 10 (by decide)).drewN k)
  rw [bad_cut] at hg
  have G2 := Lib.hid hg
  clear hg
  obtain ⟨b, o, rfl, hj⟩ := hA'.2.2 (by decide)
  have c9 := hj 9 (by decide)
  have c10 := hj 10 (by decide)
  clear hj hA'
  have d10 : (10 : Int) ≤ (d : Int) := by omega
  go_wp2_with fail
  refine G1.out.mono ?_
  rintro e w' ⟨rfl, k1, rfl⟩
  go_wp2_with fail
  refine (G2.out k1).mono ?_
  rintro e w' ⟨rfl, k2, rfl⟩
  go_wp2_with fail
  refine (bad_nil _).mono ?_
  rintro e w' ⟨rfl, k3, rfl⟩
  go_wp2_with fail
  refine (of_nil none 0 _).mono ?_
  rintro e w' ⟨rfl, rfl⟩
  go_wp2
  go_ret
  exact ⟨rfl, below_drewN HB3.out _⟩

theorem same_one (p q : Option Addr) (n c d : Nat) (l : List Nat) (w : World) (hn : n ≤ 1000000) (h : At w p n l) (h2 : At w q n l) :
    Calls Try.prog 8 #[.slice p n c, .slice q n d] w fun e w' => e = .returned (.bool true) ∧ Below w.heap.size w w' :=
  (same_any p q n n c d l l w (by omega) h h2).mono fun e w' ⟨he, k, hw⟩ => ⟨by rw [he]; simp, by rw [hw]; exact below_drewN (Below.refl _ w) k⟩
theorem good_at (p : Option Addr) (n c : Nat) (l : List Nat) (g : Bool) (w : World) (hg : Ck.goodB l = g) (hn : n ≤ 1000000) (hnc : n ≤ c) (h : At w p n l) :
    Calls Try.prog 13 #[.slice p n c] w fun e w' => e = .returned (.bool g) ∧ Below w.heap.size w w' :=
  (good_any p n c l w (by omega) hnc h).mono fun e w' ⟨he, k, hw⟩ => ⟨by rw [he, hg], by rw [hw]; exact below_drewN (Below.refl _ w) k⟩
theorem rgood_at (p : Option Addr) (n c : Nat) (l : List Nat) (g : Bool) (w : World) (hg : Ck.goodB l = g) (hn : n ≤ 1000000) (hnc : n ≤ c) (h : At w p n l) :
    Calls Try.prog 6 #[.slice p n c] w fun e w' => e = .returned (.bool g) ∧ Below w.heap.size w w' :=
  (rgood_any p n c l w (by omega) hnc h).mono fun e w' ⟨he, k, hw⟩ => ⟨by rw [he, hg], by rw [hw]; exact below_drewN (Below.refl _ w) k⟩
theorem rof_at (p : Option Addr) (n c : Nat) (l : List Nat) (s : Nat) (w : World) (hs : Ck.crc 65535 l = s) (hn : n ≤ 1000000) (h : At w p n l) :
    Calls Try.prog 12 #[.slice p n c] w fun e w' => e = .returned (.int .i64 (s : Int)) ∧ Below w.heap.size w w' :=
  (rof_any p n c l w (by omega) h).mono fun e w' ⟨he, k, hw⟩ => ⟨by rw [he, hs], by rw [hw]; exact below_drewN (Below.refl _ w) k⟩
theorem of_at (p : Option Addr) (n c : Nat) (l : List Nat) (s : Nat) (w : World) (hs : Ck.crc 65535 l = s) (hn : n ≤ 1000000) (h : At w p n l) :
    Calls Try.prog 11 #[.slice p n c] w fun e w' => e = .returned (.int .u16 (s : Int)) ∧ Below w.heap.size w w' :=
  (of_any p n c l w (by omega) h).mono fun e w' ⟨he, hw⟩ => ⟨by rw [he, hs], by rw [← hw]; exact Below.refl _ w⟩
theorem then_ {a b c : World} (h : Below a.heap.size a b) (k : Below b.heap.size b c) : Below a.heap.size a c := h.trans (k.mono h.size)

set_option maxRecDepth 100000 in
set_option maxHeartbeats 4000000 in
theorem tells_good (p : Option Addr) (m c : Nat) (l : List Nat) (w : World) (hm : m + 2 ≤ 300) (hnc : m + 2 ≤ c) (h : At w p (m + 2) l) (hg : Ck.goodB l = true) :
    Calls Try.prog 3 #[.slice p (m + 2) c] w fun e w' => e = .returned (.bool true) ∧ Below w.heap.size w w' := by
  have hm' : (m : Int) + 2 ≤ 300 := by omega
  have hc : (m : Int) + 2 ≤ (c : Int) := by omega
  have hs : Ck.crc 65535 l < 65536 := Ck.crc_lt (by decide) h.2.1
  have HS : Hid (∃ s, Ck.crc 65535 l = s ∧ s < 65536) := ⟨_, rfl, hs⟩
  clear hs
  obtain ⟨s, hs, hs'⟩ := HS.out
  have K1 := Lib.hid (fun W (hW : Below w.heap.size w W) => rgood_at p (m + 2) c l true W hg (by omega) hnc (h.keep hW))
  have K2 := Lib.hid (fun W (hW : Below w.heap.size w W) => open_yes p m c l W (by omega) hnc (h.keep hW) hg)
  have K3 := Lib.hid (fun W q d (hW : Below w.heap.size w W) hA => same_one q p m d c (l.take m) W (by omega) hA ((h.keep hW).take m (by omega)))
  have K4 := Lib.hid (fun W (hW : Below w.heap.size w W) => seal_any p (m + 2) c l W (by omega) (h.keep hW))
  have K5 := Lib.hid (fun W (hW : Below w.heap.size w W) => rseal_any p (m + 2) c l W (by omega) (h.keep hW))
  have K6 := Lib.hid (fun W q q2 d d2 hA hA2 => same_one q q2 (m + 2 + 2) d d2 (tight l) W (by omega) hA hA2)
  have K7 := Lib.hid (fun W (hW : Below w.heap.size w W) => of_at p (m + 2) c l s W hs (by omega) (h.keep hW))
  have K8 := Lib.hid (fun W (hW : Below w.heap.size w W) => rof_at p (m + 2) c l s W hs (by omega) (h.keep hW))
  have K9 := Lib.hid (fun W (hW : Below w.heap.size w W) => good_at p (m + 2) c l true W hg (by omega) hnc (h.keep hW))
  clear h hg hm hnc hs HS
  have B0 := Lib.hid (Below.refl w.heap.size w)
  go_enter Try.func3, Try.ntmps3
  go_wp2_with fail
  refine (K1.out _ B0.out).mono ?_
  rintro e w1 ⟨rfl, hb⟩
  have B1 := Lib.hid (B0.out.trans (hb.mono B0.out.size))
  clear hb B0
  go_wp2_with fail
  refine (K2.out _ B1.out).mono ?_
  rintro e w2 ⟨q, d, rfl, _, hA, hb⟩
  have B2 := Lib.hid (B1.out.trans (hb.mono B1.out.size))
  have A2 := Lib.hid hA
  clear hb B1 hA
  go_wp2_with fail
  refine (K3.out _ q d B2.out A2.out).mono ?_
  rintro e w3 ⟨rfl, hb⟩
  have B3 := Lib.hid (B2.out.trans (hb.mono B2.out.size))
  clear hb B2 A2
  go_wp2_with fail
  refine (K4.out _ B3.out).mono ?_
  rintro e w4 ⟨q4, d4, rfl, _, hA, hb⟩
  have B4 := Lib.hid (B3.out.trans (hb.mono B3.out.size))
  have A4 := Lib.hid hA
  clear hb B3 hA
  go_wp2_with fail
  refine (K5.out _ B4.out).mono ?_
  rintro e w5 ⟨q5, d5, rfl, _, hA, hb⟩
  have B5 := Lib.hid (B4.out.trans (hb.mono B4.out.size))
  have A5 := Lib.hid hA
  have A4' := Lib.hid (A4.out.keep hb)
  clear hb B4 hA A4
  go_wp2_with fail
  refine (K6.out _ q4 q5 d4 d5 A4'.out A5.out).mono ?_
  rintro e w6 ⟨rfl, hb⟩
  have B6 := Lib.hid (B5.out.trans (hb.mono B5.out.size))
  clear hb B5 A4' A5
  go_wp2_with fail
  refine (alive_any _).mono ?_
  rintro e w7 ⟨rfl, hb⟩
  have B7 := Lib.hid (B6.out.trans (hb.mono B6.out.size))
  clear hb B6
  go_wp2_with fail
  refine (K7.out _ B7.out).mono ?_
  rintro e w8 ⟨rfl, hb⟩
  have B8 := Lib.hid (B7.out.trans (hb.mono B7.out.size))
  clear hb B7
  go_wp2_with fail
  refine (K8.out _ B8.out).mono ?_
  rintro e w9 ⟨rfl, hb⟩
  have B9 := Lib.hid (B8.out.trans (hb.mono B8.out.size))
  clear hb B8
  go_wp2_with fail
  refine (K9.out _ B9.out).mono ?_
  rintro e w10 ⟨rfl, hb⟩
  have B10 := Lib.hid (B9.out.trans (hb.mono B9.out.size))
  clear hb B9
  go_wp2
  go_ret
  exact ⟨rfl, B10.out⟩
set_option maxRecDepth 100000 in
set_option maxHeartbeats 4000000 in
theorem tells_bad (p : Option Addr) (n c : Nat) (l : List Nat) (w : World) (hm : n ≤ 300) (hnc : n ≤ c) (h : At w p n l) (hg : Ck.goodB l = false) :
    Calls Try.prog 3 #[.slice p n c] w fun e w' => e = .returned (.bool true) ∧ Below w.heap.size w w' := by
  have hm' : (n : Int) ≤ 300 := by omega
  have hc : (n : Int) ≤ (c : Int) := by omega
  have hs : Ck.crc 65535 l < 65536 := Ck.crc_lt (by decide) h.2.1
  have HS : Hid (∃ s, Ck.crc 65535 l = s ∧ s < 65536) := ⟨_, rfl, hs⟩
  clear hs
  obtain ⟨s, hs, hs'⟩ := HS.out
  have K1 := Lib.hid (fun W (hW : Below w.heap.size w W) => rgood_at p n c l false W hg (by omega) hnc (h.keep hW))
  have K2 := Lib.hid (fun W (hW : Below w.heap.size w W) => open_no p n c l W (by omega) hnc (h.keep hW) hg)
  have K4 := Lib.hid (fun W (hW : Below w.heap.size w W) => seal_any p n c l W (by omega) (h.keep hW))
  have K5 := Lib.hid (fun W (hW : Below w.heap.size w W) => rseal_any p n c l W (by omega) (h.keep hW))
  have K6 := Lib.hid (fun W q q2 d d2 hA hA2 => same_one q q2 (n + 2) d d2 (tight l) W (by omega) hA hA2)
  have K7 := Lib.hid (fun W (hW : Below w.heap.size w W) => of_at p n c l s W hs (by omega) (h.keep hW))
  have K8 := Lib.hid (fun W (hW : Below w.heap.size w W) => rof_at p n c l s W hs (by omega) (h.keep hW))
  have K9 := Lib.hid (fun W (hW : Below w.heap.size w W) => good_at p n c l false W hg (by omega) hnc (h.keep hW))
  clear h hg hm hnc hs HS
  have B0 := Lib.hid (Below.refl w.heap.size w)
  go_enter Try.func3, Try.ntmps3
  go_wp2_with fail
  refine (K1.out _ B0.out).mono ?_
  rintro e w1 ⟨rfl, hb⟩
  have B1 := Lib.hid (B0.out.trans (hb.mono B0.out.size))
  clear hb B0
  go_wp2_with fail
  refine (K2.out _ B1.out).mono ?_
  rintro e w2 ⟨rfl, k2, hk⟩
  have B2 := Lib.hid (show Below w.heap.size w w2 by rw [hk]; exact below_drewN B1.out k2)
  clear hk B1
  go_wp2_with fail
  refine (same_nil none none 0 0 _).mono ?_
  rintro e w3 ⟨rfl, hk⟩
  have B3 := Lib.hid (show Below w.heap.size w w3 by rw [← hk]; exact B2.out)
  clear hk B2
  go_wp2_with fail
  refine (K4.out _ B3.out).mono ?_
  rintro e w4 ⟨q4, d4, rfl, _, hA, hb⟩
  have B4 := Lib.hid (B3.out.trans (hb.mono B3.out.size))
  have A4 := Lib.hid hA
  clear hb B3 hA
  go_wp2_with fail
  refine (K5.out _ B4.out).mono ?_
  rintro e w5 ⟨q5, d5, rfl, _, hA, hb⟩
  have B5 := Lib.hid (B4.out.trans (hb.mono B4.out.size))
  have A5 := Lib.hid hA
  have A4' := Lib.hid (A4.out.keep hb)
  clear hb B4 hA A4
  go_wp2_with fail
  refine (K6.out _ q4 q5 d4 d5 A4'.out A5.out).mono ?_
  rintro e w6 ⟨rfl, hb⟩
  have B6 := Lib.hid (B5.out.trans (hb.mono B5.out.size))
  clear hb B5 A4' A5
  go_wp2_with fail
  refine (alive_any _).mono ?_
  rintro e w7 ⟨rfl, hb⟩
  have B7 := Lib.hid (B6.out.trans (hb.mono B6.out.size))
  clear hb B6
  go_wp2_with fail
  refine (K7.out _ B7.out).mono ?_
  rintro e w8 ⟨rfl, hb⟩
  have B8 := Lib.hid (B7.out.trans (hb.mono B7.out.size))
  clear hb B7
  go_wp2_with fail
  refine (K8.out _ B8.out).mono ?_
  rintro e w9 ⟨rfl, hb⟩
  have B9 := Lib.hid (B8.out.trans (hb.mono B8.out.size))
  clear hb B8
  go_wp2_with fail
  refine (K9.out _ B9.out).mono ?_
  rintro e w10 ⟨rfl, hb⟩
  have B10 := Lib.hid (B9.out.trans (hb.mono B9.out.size))
  clear hb B9
  go_wp2
  go_ret
  exact ⟨rfl, B10.out⟩

theorem tells_long (p : Option Addr) (n c : Nat) (w : World) (hn : 300 < n) (hbig : n ≤ 9223372036854775807) :
    Calls Try.prog 3 #[.slice p n c] w fun e w' => e = .returned (.bool true) ∧ Below w.heap.size w w' := by
  have h1 : (300 : Int) < (n : Int) := by omega
  go_enter Try.func3, Try.ntmps3
  go_wp2_with fail
  refine (alive_any _).mono ?_
  rintro e w1 ⟨rfl, hb⟩
  have HB := Lib.hid hb
  clear hb
  go_wp2
  go_ret
  exact ⟨rfl, HB.out⟩

/-- What the walk is told of a list of whole numbers that came in: it is nil; or it leads to a row of 'cap' cells, the numbers 'zs'. -/
def IsRow (k : IntKind) (w : World) (a : Option Addr) (len cap : Nat) (zs : List Int) : Prop :=
  (a = none ∧ len = 0 ∧ cap = 0 ∧ zs = []) ∨
  ∃ x, a = some x ∧ len ≤ cap ∧ cap ≤ maxLen ∧ zs.length = cap ∧ (∀ i, i < zs.length → w.cell? (x.add i) = some (.int k (zs.getD i 0))) ∧ ∀ n ∈ zs, (Lit.int k n).wf = true

theorem nat_byte {n : Int} (h : (Lit.int .u8 n).wf = true) : 0 ≤ n ∧ n < 256 := by
  have h1 := (Lit.wf_int_iff .u8 n).1 h
  have e1 : IntKind.u8.min = 0 := by decide
  have e2 : IntKind.u8.max = 255 := by decide
  rw [e1, e2] at h1
  omega
/-- A row of bytes that came in reads as a list of bytes. -/
theorem at_row {w : World} {a : Option Addr} {len cap : Nat} {zs : List Int} (h : IsRow .u8 w a len cap zs) : len ≤ cap ∧ len ≤ 9223372036854775807 ∧ ∃ l, At w a len l := by
  rcases h with ⟨rfl, rfl, rfl, rfl⟩ | ⟨x, rfl, hl, hm, hz, hcell, hwf⟩
  · exact ⟨Nat.le_refl _, Nat.zero_le _, [], at_nil w⟩
  · unfold maxLen at hm
    refine ⟨hl, by omega, (zs.map Int.toNat).take len, ?_, ?_, fun h0 => ?_⟩
    · rw [List.length_take, List.length_map]; omega
    · intro y hy
      obtain ⟨z, hz, rfl⟩ := List.mem_map.1 (List.mem_of_mem_take hy)
      have := nat_byte (hwf z hz)
      omega
    · obtain ⟨bk, off, spot⟩ := x
      have hc0 := hcell 0 (by omega)
      have hspot : spot = none := by simpa [Addr.add] using World.cell?_spot hc0
      subst hspot
      refine ⟨bk, off, rfl, fun j hj => ?_⟩
      have hj' : j < zs.length := by omega
      have h := hcell j hj'
      rw [add_none] at h
      rw [h, List.getD_eq_getElem?_getD, List.getD_eq_getElem?_getD, List.getElem?_take_of_lt hj, List.getElem?_map, List.getElem?_eq_getElem hj']
      have hb := nat_byte (hwf _ (List.getElem_mem hj'))
      simp only [Option.getD_some, Option.map_some]
      rw [Int.toNat_of_nonneg hb.1]

theorem tells_any (a : Option Addr) (len cap : Nat) (zs : List Int) (w : World) (hrow : IsRow .u8 w a len cap zs) :
    Calls Try.prog 3 #[.slice a len cap] w fun e w' => e = .returned (.bool true) ∧ Below w.heap.size w w' := by
  obtain ⟨hnc, hbig, l, h⟩ := at_row hrow
  by_cases h3 : 300 < len
  · exact tells_long a len cap w h3 hbig
  · by_cases hg : Ck.goodB l = true
    · have h2 : ¬ len < 2 := fun hlt => by
        rw [Ck.good_short (by rw [h.1]; exact hlt)] at hg
        cases hg
      obtain ⟨m, rfl⟩ : ∃ m, len = m + 2 := ⟨len - 2, by omega⟩
      exact tells_good a m cap l w (by omega) hnc h hg
    · exact tells_bad a len cap l w (by omega) hnc h (by simpa using hg)
end Go.Proofs.Ytpcpfcbcmenliaa
