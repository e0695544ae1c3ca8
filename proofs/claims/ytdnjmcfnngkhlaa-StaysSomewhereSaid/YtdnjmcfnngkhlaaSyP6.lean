/- Walks over package stays: Enter, Leave. Conditions: the list reads as stays; its slice's length is at most its capacity. -/
import Derived.Test.YtdnjmcfnngkhlaaSyP5
namespace Go.Proofs.Ytdnjmcfnngkhlaa
open Go.RowKit

namespace Sy
theorem until_V {S : List Sy} {now : Int} (h : May S now) : uptoV S now = untilS S now := by
  unfold uptoV
  rw [if_pos (right_yes h.1), upto_until h]
set_option maxRecDepth 100000 in
set_option maxHeartbeats 8000000 in
theorem penter_no (p : Option Addr) (n c : Nat) (S : List Sy) (z now : Int) (w : World) (h : Rw 3 scells w p n S) (hn : n ≤ 1000000) (hm : ¬ (May S now ∧ 1 ≤ z)) :
    Calls Try.prog 5 #[.slice p n c, .int .i64 z, .int .i64 now] w (NoEnd w) := by
  by_cases hz : 1 ≤ z
  · have hz' : ¬ z < 1 := by omega
    have H := Lib.hid h
    have CR := Lib.hid (pright_any p n c S w h hn)
    have CM := Lib.hid (fun W (hW : Rw 3 scells W p n S) => pmay_any p n c S now W hW hn)
    clear h
    by_cases hR : Right S
    · have HB := Lib.hid (right_yes hR)
      have HM := Lib.hid (may_no hR (fun hh => hm ⟨hh, hz⟩))
      clear hR hm
      go_enter Try.func5, Try.ntmps5
      go_wp2_with fail
      refine CR.out.mono ?_
      rintro e w1 ⟨rfl, hb⟩
      rw [HB.out]
      have B1 := Lib.hid hb
      have H1 := Lib.hid (H.out.keep scells_len hb)
      clear hb CR H
      go_wp2_with fail
      refine (CM.out _ H1.out).mono ?_
      rintro e w2 ⟨rfl, rfl⟩
      rw [HM.out]
      clear CM H1
      go_wp2
      go_ret2
      exact ⟨rfl, B1.out⟩
    · have HB := Lib.hid (right_no hR)
      clear hR hm
      go_enter Try.func5, Try.ntmps5
      go_wp2_with fail
      refine CR.out.mono ?_
      rintro e w1 ⟨rfl, hb⟩
      rw [HB.out]
      have B1 := Lib.hid hb
      clear hb CR H
      go_wp2
      go_ret2
      exact ⟨rfl, B1.out⟩
  · have hz' : z < 1 := by omega
    clear hm h hz
    go_enter Try.func5, Try.ntmps5
    go_wp2
    go_ret2
    exact ⟨rfl, Below.refl _ _⟩
set_option maxRecDepth 100000 in
set_option maxHeartbeats 8000000 in
theorem penter_yes (p : Option Addr) (n c : Nat) (S : List Sy) (z now : Int) (w : World) (h : Rw 3 scells w p n S) (hn : n ≤ 1000000) (hnc : n ≤ c) (hm : May S now) (hz : 1 ≤ z) :
    Calls Try.prog 5 #[.slice p n c, .int .i64 z, .int .i64 now] w (OkEnd (goS (untilS S now) z now) w) := by
  have hz' : ¬ z < 1 := by omega
  obtain ⟨i0, hi, hz0, hz1, hz2⟩ := info_parts info
  have H := Lib.hid h
  have CR := Lib.hid (pright_any p n c S w h hn)
  have CM := Lib.hid (fun W (hW : Rw 3 scells W p n S) => pmay_any p n c S now W hW hn)
  have CU := Lib.hid (fun W (hW : Rw 3 scells W p n S) => pupto_any p n c S now W hW hn hnc)
  have HB := Lib.hid (right_yes hm.1)
  have HM := Lib.hid ((may_B hm.1).2 hm)
  rw [until_V hm] at CU
  have hlen : (untilS S now).length ≤ 1000000 := by
    have := until_len S now
    have := h.1
    omega
  clear h hm
  generalize untilS S now = U at *
  go_enter Try.func5, Try.ntmps5
  go_wp2_with fail
  refine CR.out.mono ?_
  rintro e w1 ⟨rfl, hb⟩
  rw [HB.out]
  have B1 := Lib.hid hb
  have H1 := Lib.hid (H.out.keep scells_len hb)
  clear hb CR H
  go_wp2_with fail
  refine (CM.out _ H1.out).mono ?_
  rintro e w2 ⟨rfl, rfl⟩
  rw [HM.out]
  clear CM
  go_wp2_with fail
  refine (CU.out _ H1.out).mono ?_
  rintro e w3 ⟨v, rfl, ho0, hb⟩
  have ho := own_base ho0 B1.out.size
  have B3 := Lib.hid (B1.out.trans (hb.mono B1.out.size))
  clear hb ho0 CU H1 B1
  rcases ends_of U with rfl | ⟨A, u, rfl⟩
  · have HO := Lib.hid ho
    have HG : Hid (goS [] z now = [] ++ [⟨z, now, -1⟩]) := Lib.hid rfl
    obtain ⟨q, d, rfl⟩ := own_slice ho
    have h0 : (([] : List Sy).length : Int) = 0 := rfl
    have h00 : ([] : List Sy).length = 0 := rfl
    clear ho
    have RW4 := Lib.hid (HO.out.alloc (.cells #[.int .i64 z, .int .i64 now, .int .i64 (-1)] 33))
    have B4 := Lib.hid (B3.out.alloc B3.out.size (.cells #[.int .i64 z, .int .i64 now, .int .i64 (-1)] 33))
    have hws := Lib.hid B3.out.size
    go_wp2_with (at_builtin; refine wpList_append_own _ rfl _ _ 25 rfl w.heap.size 33 i0 _ 3 24 Try.underlying25 hi hz0 hz1 hz2 rfl (by decide) _ _ _ rfl RW4.out ⟨w3.heap.size, 0, none⟩ 1 1 [.int .i64 z, .int .i64 now, .int .i64 (-1)] rfl rfl (World.news_of_block (cs := #[.int .i64 z, .int .i64 now, .int .i64 (-1)]) (t := 33) (fr := (0, 0)) (heap_alloc_new w3 _)) (by simp [Value.oneCell']) (by unfold maxLen; omega) (by omega) (by have := hws.out; simp; omega) ?_; intro v2 w7 hown7 hg7 _)
    have B7 := Lib.hid (B4.out.grown hg7 B4.out.size (fun j hj => (own_lt RW4.out hj).1))
    have RW7 : Hid (w7.ownsRow w.heap.size 33 3 v2 (0 + 1) ((([] : List Sy) ++ [(⟨z, now, -1⟩ : Sy)]).flatMap scells)) := Lib.hid (by rw [← flat_snoc]; exact hown7)
    clear hown7 hg7
    obtain ⟨q3, d3, rfl⟩ := own_slice RW7.out
    go_wp2
    go_ret2
    refine ⟨_, rfl, ?_, B7.out⟩
    rw [HG.out]
    exact RW7.out
  · have hl2 : (A ++ [u]).length = A.length + 1 := by simp
    have hAl : A.length ≤ 1000000 := by omega
    rw [hl2] at ho hlen
    obtain ⟨b2, c2, rfl, hB2, hlt2, hnc2⟩ := own_some ho (by omega)
    have hx2 : (A ++ [u])[A.length]? = some u := by simp
    have f0 : w3.cell? ⟨b2, A.length * 3, none⟩ = some (.int .i64 u.zone) := row_cell scells_len ho hl2 hx2 (i := 0) (by decide)
    have f2 : w3.cell? ⟨b2, A.length * 3 + 2, none⟩ = some (.int .i64 u.to) := row_cell scells_len ho hl2 hx2 (i := 2) (by decide)
    have fz : w3.frozen? ⟨b2, A.length * 3 + 2, none⟩ = false := by
      obtain ⟨cur, HG, _⟩ := lies_own ho
      exact HG.frozen _
    have HO := Lib.hid ho
    have HS := Lib.hid (row_store (x' := ⟨u.zone, u.frm, -1⟩) scells_len ho hx2 (i := 2) (by decide) (u := .int .i64 (-1)) rfl)
    have HB2 := Lib.hid hB2
    have HL := Lib.hid hl2
    have hW : IntKind.i64.wrap (((A.length + 1 : Nat) : Int) - 1) = (A.length : Int) := by rw [show ((A.length + 1 : Nat) : Int) - 1 = (A.length : Int) by omega]; exact IntWalk.i64_in _ (by omega)
    clear ho hx2 hB2 hlt2 hl2
    by_cases hc : u.zone = z
    · have tz : (u.zone == z) = true := by simp [hc]
      have HG : Hid (goS (A ++ [u]) z now = A ++ [⟨u.zone, u.frm, -1⟩]) := Lib.hid (by rw [← hc]; exact go_same)
      have HT : Hid ((A ++ [u]).set A.length ⟨u.zone, u.frm, -1⟩ = A ++ [⟨u.zone, u.frm, -1⟩]) := Lib.hid (by simp)
      clear hc
      go_wp2
      go_ret2
      refine ⟨_, rfl, ?_, B3.out.setCell HB2.out _⟩
      rw [HG.out]
      have h1 := HS.out
      rw [HT.out] at h1
      simpa using h1
    · have tz : (u.zone == z) = false := by simp [hc]
      have HG : Hid (goS (A ++ [u]) z now = A ++ [u] ++ [⟨z, now, -1⟩]) := Lib.hid (go_new hc)
      clear hc f2 fz
      have RW4 := Lib.hid (HO.out.alloc (.cells #[.int .i64 z, .int .i64 now, .int .i64 (-1)] 33))
      have B4 := Lib.hid (B3.out.alloc B3.out.size (.cells #[.int .i64 z, .int .i64 now, .int .i64 (-1)] 33))
      have hws := Lib.hid B3.out.size
      go_wp2_with (at_builtin; refine wpList_append_own _ rfl _ _ 25 rfl w.heap.size 33 i0 _ 3 24 Try.underlying25 hi hz0 hz1 hz2 rfl (by decide) _ _ _ rfl RW4.out ⟨w3.heap.size, 0, none⟩ 1 1 [.int .i64 z, .int .i64 now, .int .i64 (-1)] rfl rfl (World.news_of_block (cs := #[.int .i64 z, .int .i64 now, .int .i64 (-1)]) (t := 33) (fr := (0, 0)) (heap_alloc_new w3 _)) (by simp [Value.oneCell']) (by unfold maxLen; omega) (by omega) (by have := hws.out; simp; omega) ?_; intro v2 w7 hown7 hg7 _)
      have B7 := Lib.hid (B4.out.grown hg7 B4.out.size (fun j hj => (own_lt RW4.out hj).1))
      have RW7 : Hid (w7.ownsRow w.heap.size 33 3 v2 (A.length + 1 + 1) ((A ++ [u] ++ [(⟨z, now, -1⟩ : Sy)]).flatMap scells)) := Lib.hid (by rw [← flat_snoc]; exact hown7)
      clear hown7 hg7
      obtain ⟨q3, d3, rfl⟩ := own_slice RW7.out
      go_wp2
      go_ret2
      refine ⟨_, rfl, ?_, B7.out⟩
      rw [HG.out]
      have h1 := RW7.out
      simpa using h1
set_option maxRecDepth 100000 in
set_option maxHeartbeats 8000000 in
theorem pleave_no (p : Option Addr) (n c : Nat) (S : List Sy) (now : Int) (w : World) (h : Rw 3 scells w p n S) (hn : n ≤ 1000000) (hm : ¬ (May S now ∧ On S)) :
    Calls Try.prog 6 #[.slice p n c, .int .i64 now] w (NoEnd w) := by
  have H := Lib.hid h
  have CR := Lib.hid (pright_any p n c S w h hn)
  have CO := Lib.hid (fun W (hW : Rw 3 scells W p n S) => pon_any p n c S W hW hn)
  have CM := Lib.hid (fun W (hW : Rw 3 scells W p n S) => pmay_any p n c S now W hW hn)
  clear h
  by_cases hR : Right S
  · have HB := Lib.hid (right_yes hR)
    by_cases hO : On S
    · have HO := Lib.hid (on_B.2 hO)
      have HM := Lib.hid (may_no hR (fun hh => hm ⟨hh, hO⟩))
      clear hR hm hO
      go_enter Try.func6, Try.ntmps6
      go_wp2_with fail
      refine CR.out.mono ?_
      rintro e w1 ⟨rfl, hb⟩
      rw [HB.out]
      have B1 := Lib.hid hb
      have H1 := Lib.hid (H.out.keep scells_len hb)
      clear hb CR H
      go_wp2_with fail
      refine (CO.out _ H1.out).mono ?_
      rintro e w2 ⟨rfl, rfl⟩
      rw [HO.out]
      clear CO
      go_wp2_with fail
      refine (CM.out _ H1.out).mono ?_
      rintro e w2 ⟨rfl, rfl⟩
      rw [HM.out]
      clear CM H1
      go_wp2
      go_ret2
      exact ⟨rfl, B1.out⟩
    · have HO := Lib.hid (on_no hO)
      clear hR hm hO CM
      go_enter Try.func6, Try.ntmps6
      go_wp2_with fail
      refine CR.out.mono ?_
      rintro e w1 ⟨rfl, hb⟩
      rw [HB.out]
      have B1 := Lib.hid hb
      have H1 := Lib.hid (H.out.keep scells_len hb)
      clear hb CR H
      go_wp2_with fail
      refine (CO.out _ H1.out).mono ?_
      rintro e w2 ⟨rfl, rfl⟩
      rw [HO.out]
      clear CO
      go_wp2
      go_ret2
      exact ⟨rfl, B1.out⟩
  · have HB := Lib.hid (right_no hR)
    clear hR hm CO CM
    go_enter Try.func6, Try.ntmps6
    go_wp2_with fail
    refine CR.out.mono ?_
    rintro e w1 ⟨rfl, hb⟩
    rw [HB.out]
    have B1 := Lib.hid hb
    clear hb CR H
    go_wp2
    go_ret2
    exact ⟨rfl, B1.out⟩
set_option maxRecDepth 100000 in
set_option maxHeartbeats 8000000 in
theorem pleave_yes (p : Option Addr) (n c : Nat) (S : List Sy) (now : Int) (w : World) (h : Rw 3 scells w p n S) (hn : n ≤ 1000000) (hnc : n ≤ c) (hm : May S now) (hO : On S) :
    Calls Try.prog 6 #[.slice p n c, .int .i64 now] w (OkEnd (untilS S now) w) := by
  have H := Lib.hid h
  have CR := Lib.hid (pright_any p n c S w h hn)
  have CO := Lib.hid (fun W (hW : Rw 3 scells W p n S) => pon_any p n c S W hW hn)
  have CM := Lib.hid (fun W (hW : Rw 3 scells W p n S) => pmay_any p n c S now W hW hn)
  have CU := Lib.hid (fun W (hW : Rw 3 scells W p n S) => pupto_any p n c S now W hW hn hnc)
  have HB := Lib.hid (right_yes hm.1)
  have HO := Lib.hid (on_B.2 hO)
  have HM := Lib.hid ((may_B hm.1).2 hm)
  rw [until_V hm] at CU
  clear h hm hO
  generalize untilS S now = U at *
  go_enter Try.func6, Try.ntmps6
  go_wp2_with fail
  refine CR.out.mono ?_
  rintro e w1 ⟨rfl, hb⟩
  rw [HB.out]
  have B1 := Lib.hid hb
  have H1 := Lib.hid (H.out.keep scells_len hb)
  clear hb CR H
  go_wp2_with fail
  refine (CO.out _ H1.out).mono ?_
  rintro e w2 ⟨rfl, rfl⟩
  rw [HO.out]
  clear CO
  go_wp2_with fail
  refine (CM.out _ H1.out).mono ?_
  rintro e w2 ⟨rfl, rfl⟩
  rw [HM.out]
  clear CM
  go_wp2_with fail
  refine (CU.out _ H1.out).mono ?_
  rintro e w3 ⟨v, rfl, ho, hb⟩
  have RW := Lib.hid (own_base ho B1.out.size)
  have B3 := Lib.hid (B1.out.trans (hb.mono B1.out.size))
  obtain ⟨q3, d3, rfl⟩ := own_slice ho
  clear hb ho CU H1 B1
  go_wp2
  go_ret2
  exact ⟨_, rfl, RW.out, B3.out⟩
end Sy
end Go.Proofs.Ytdnjmcfnngkhlaa
