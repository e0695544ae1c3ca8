/- Walks over the document's answer of layer 9: into a zone; out of it. No condition but those written. Walks over the document's answer of layer 12: Mark, Leave, Give. No condition but those written. Walks over the document's answer of layer 12: Leave. No condition but those written. Walks over package master, and the document's answer of layer 10: whether a zone, or a product, may be. No condition but those written. Walks over package master's table of Zones: the one of a number. No condition but those written. The document's answer of layer 10: a master in memory. No condition but those written. Walks over the document's answer of layer 10: the one of a number (Zone); whether two lists are one. No condition but those written. -/
import Derived.Test.YtkfmkchonlajpaaGreatQ04
import Derived.Test.YtkfmkchonlajpaaGreatQ03
import Derived.BigQuiet
import Derived.Deep.QuietTactic
namespace Go.Proofs.YtkfmkchonlajpaaGreat
open Go.RowKit Go.Maps

namespace Sy
set_option maxRecDepth 100000 in
set_option maxHeartbeats 4000000 in
theorem r9enter_no (p : Option Addr) (n c : Nat) (S : List Sy) (z now : Int) (w : World) (h : Rw 3 scells w p n S) (hn : n ≤ 1000000) (hno : ¬ (May S now ∧ 1 ≤ z)) :
    Calls Tryz.prog 63 #[.slice p n c, .int .i64 z, .int .i64 now] w (NoEnd w) := by
  have M := Lib.hid (r9may_any p n c S now w h hn)
  clear h hn
  by_cases hm : May S now
  · rw [mayR_iff.2 hm] at M
    have hz0 : ¬ 1 ≤ z := fun hz => hno ⟨hm, hz⟩
    have hz : decide (z < 1) = true := by simp; omega
    clear hno hm hz0
    go_enter Tryz.func63, Tryz.ntmps63
    go_wp2_with fail
    refine M.out.mono ?_
    rintro e w1 ⟨rfl, hb⟩
    have B := Lib.hid hb
    clear hb M
    go_wp2
    go_ret2
    exact ⟨rfl, B.out⟩
  · rw [mayR_f hm] at M
    clear hno hm
    go_enter Tryz.func63, Tryz.ntmps63
    go_wp2_with fail
    refine M.out.mono ?_
    rintro e w1 ⟨rfl, hb⟩
    have B := Lib.hid hb
    clear hb M
    go_wp2
    go_ret2
    exact ⟨rfl, B.out⟩
theorem own_low {w : World} {B B' : Nat} {e : TypeId} {k n : Nat} {v : Value} {xs : List Value} (h : w.ownsRow B e k v n xs) (hb : B' ≤ B) : w.ownsRow B' e k v n xs := by
  refine ⟨h.1, ?_⟩
  rcases h.2 with h0 | ⟨g, cap, cur, e1, h1, h2⟩
  · exact .inl h0
  · exact .inr ⟨g, cap, cur, e1, Nat.le_trans hb h1, h2⟩
set_option maxRecDepth 100000 in
set_option maxHeartbeats 8000000 in
theorem r9enter_yes (p : Option Addr) (n c : Nat) (S : List Sy) (z now : Int) (w : World) (h : Rw 3 scells w p n S) (hn : n ≤ 1000000) (hm : May S now) (hz : 1 ≤ z) :
    Calls Tryz.prog 63 #[.slice p n c, .int .i64 z, .int .i64 now] w (OkEnd (goS (untilS S now) z now) w) := by
  obtain ⟨i0, hi, hz0, hz1, hz2⟩ := info_parts infoS9
  have M := Lib.hid (r9may_any p n c S now w h hn)
  rw [mayR_iff.2 hm] at M
  have U := Lib.hid (fun W (hW : Below w.heap.size w W) => r9until_any p n c S now W (h.keep scells_len hW) hn)
  rw [untilR_may hm] at U
  have hl := until_len S now
  rw [h.1] at hl
  have hz' : decide (z < 1) = false := by simp; omega
  clear h hm hz
  generalize untilS S now = L at *
  go_enter Tryz.func63, Tryz.ntmps63
  go_wp2_with fail
  refine M.out.mono ?_
  rintro e w1 ⟨rfl, hb⟩
  have B := Lib.hid hb
  clear hb M
  go_wp2_with fail
  refine (U.out _ B.out).mono ?_
  intro e w2 he
  obtain ⟨v, rfl, ho, hb⟩ := he
  have B2 := Lib.hid (B.out.trans (hb.mono B.out.size))
  have O2 : Hid (w2.ownsRow w.heap.size 71 3 v L.length (L.flatMap scells)) := Lib.hid (own_low ho B.out.size)
  clear ho hb U hz' B
  have hs2 := B2.out.size
  have hL' : (L.length : Int) ≤ 1000000 := by omega
  rcases ends_of L with rfl | ⟨A, u, rfl⟩
  · obtain ⟨q, d, rfl⟩ := own_slice O2.out
    rw [go_nil]
    go_wp2_with (at_builtin; refine wpList_append_own _ rfl _ _ 48 rfl w.heap.size 71 i0 _ 3 24 Tryz.underlying48 hi hz0 hz1 hz2 rfl (by decide) _ _ _ rfl (O2.out.alloc _) ⟨w2.heap.size, 0, none⟩ 1 1 [.int .i64 z, .int .i64 now, .int .i64 (-1)] rfl rfl (World.news_of_block (cs := #[.int .i64 z, .int .i64 now, .int .i64 (-1)]) (t := 71) (fr := (0, 0)) (heap_alloc_new w2 _)) (by simp [Value.oneCell']) (by unfold maxLen; simp) (by simp) (by simp; omega) ?_; intro v5 w5 hown5 hg5 _; have B5 := Lib.hid ((B2.out.alloc hs2 (.cells #[.int .i64 z, .int .i64 now, .int .i64 (-1)] 71)).grown hg5 (Nat.le_trans hs2 (size_alloc _ _)) (fun i hi => (own_lt O2.out hi).1)))
    have O5 := Lib.hid hown5
    clear hown5 hg5
    go_ret2
    exact ⟨v5, rfl, O5.out, B5.out⟩
  · have hlen : (A ++ [u]).length = A.length + 1 := by simp
    obtain ⟨m, hm⟩ : ∃ m, A.length = m := ⟨_, rfl⟩
    rw [hm] at hlen
    obtain ⟨g, cap, rfl, hg1, hg2, hcap⟩ := own_some O2.out (by rw [hlen]; omega)
    rw [hlen] at hL' hl hcap ⊢
    have O3 : Hid (w2.ownsRow w.heap.size 71 3 (.slice (some ⟨g, 0, none⟩) (m + 1) cap) (m + 1) ((A ++ [u]).flatMap scells)) := Lib.hid (by have := O2.out; rw [hlen] at this; exact this)
    have hu : (A ++ [u])[m]? = some u := by rw [← hm]; simp
    have u0 : w2.cell? ⟨g, m * 3, none⟩ = some (.int .i64 u.zone) := row_cell scells_len O3.out hlen hu (i := 0) (by decide)
    have hm1 : (m : Int) ≤ 1000000 := by omega
    have hm0 : (0 : Int) < (m : Int) + 1 := by omega
    have HM := Lib.hid hm
    have HL := Lib.hid hlen
    clear hlen hm O2 hL'
    by_cases hc : u.zone = z
    · have hc1 : (u.zone == z) = true := by simp [hc]
      have HS := Lib.hid (show goS (A ++ [u]) z now = A ++ [⟨u.zone, u.frm, -1⟩] by rw [← hc, go_same])
      have u2 : w2.cell? ⟨g, m * 3 + 2, none⟩ = some (.int .i64 u.to) := row_cell scells_len O3.out HL.out hu (i := 2) (by decide)
      have f2 : w2.frozen? ⟨g, m * 3 + 2, none⟩ = false := O3.out.frozenAt (m * 3 + 2)
      have R6 := Lib.hid (row_store scells_len O3.out hu (i := 2) (by decide) (x' := ⟨u.zone, u.frm, -1⟩) (u := .int .i64 (-1)) rfl)
      have T6 := Lib.hid (B2.out.setCell (p := ⟨g, m * 3 + 2, none⟩) hg1 (.int .i64 (-1)))
      have HSE := Lib.hid (show (A ++ [u]).set m ⟨u.zone, u.frm, -1⟩ = A ++ [⟨u.zone, u.frm, -1⟩] by rw [← HM.out]; simp)
      clear hu hc
      generalize u.zone = uz at *
      go_wp2
      go_ret2
      refine ⟨.slice (some ⟨g, 0, none⟩) (m + 1) cap, rfl, ?_, T6.out⟩
      rw [HS.out, List.length_append, HM.out]
      have := R6.out
      rw [HSE.out] at this
      exact this
    · have hc1 : (u.zone == z) = false := by simp [hc]
      have HS := Lib.hid (show goS (A ++ [u]) z now = A ++ [u] ++ [⟨z, now, -1⟩] from go_new hc)
      clear hu hc
      generalize u.zone = uz at *
      go_wp2_with (at_builtin; refine wpList_append_own _ rfl _ _ 48 rfl w.heap.size 71 i0 _ 3 24 Tryz.underlying48 hi hz0 hz1 hz2 rfl (by decide) _ _ _ rfl (O3.out.alloc _) ⟨w2.heap.size, 0, none⟩ 1 1 [.int .i64 z, .int .i64 now, .int .i64 (-1)] rfl rfl (World.news_of_block (cs := #[.int .i64 z, .int .i64 now, .int .i64 (-1)]) (t := 71) (fr := (0, 0)) (heap_alloc_new w2 _)) (by simp [Value.oneCell']) (by unfold maxLen; omega) (by omega) (by simp; omega) ?_; intro v5 w5 hown5 hg5 _; have B5 := Lib.hid ((B2.out.alloc hs2 (.cells #[.int .i64 z, .int .i64 now, .int .i64 (-1)] 71)).grown hg5 (Nat.le_trans hs2 (size_alloc _ _)) (fun i hi => (own_lt O3.out hi).1)))
      have O5 := Lib.hid hown5
      clear hown5 hg5
      go_ret2
      refine ⟨v5, rfl, ?_, B5.out⟩
      rw [HS.out, ← flat_snoc, List.length_append, HL.out]
      exact O5.out
set_option maxRecDepth 100000 in
set_option maxHeartbeats 4000000 in
theorem r9leave_yes (p : Option Addr) (n c : Nat) (S : List Sy) (now : Int) (w : World) (h : Rw 3 scells w p n S) (hn : n ≤ 1000000) (hm : May S now) (ho : On S) :
    Calls Tryz.prog 64 #[.slice p n c, .int .i64 now] w (OkEnd (untilS S now) w) := by
  have M := Lib.hid (r9may_any p n c S now w h hn)
  rw [mayR_iff.2 hm] at M
  have U := Lib.hid (fun W (hW : Below w.heap.size w W) => r9until_any p n c S now W (h.keep scells_len hW) hn)
  rw [untilR_may hm] at U
  have EC := Lib.hid (fun (W : World) (hW : Below w.heap.size w W) => h.keep scells_len hW)
  have hlen := h.1
  obtain ⟨A, x, rfl, hx⟩ := ho
  obtain ⟨m, hmm⟩ : ∃ m, A.length = m := ⟨_, rfl⟩
  have hnm : n = m + 1 := by rw [← hlen]; simp [hmm]
  subst hnm
  have hu : (A ++ [x])[m]? = some x := by rw [← hmm]; simp
  have hm1 : (m : Int) ≤ 1000000 := by omega
  have hm0 : ((m : Int) + 1 == 0) = false := by rw [beq_eq_false_iff_ne]; omega
  have HU := Lib.hid hu
  have HX := Lib.hid hx
  clear hu hx hmm hlen hm h hn
  go_enter Tryz.func64, Tryz.ntmps64
  go_wp2_with fail
  refine M.out.mono ?_
  rintro e w1 ⟨rfl, hb⟩
  obtain ⟨b, o, rfl, hc⟩ := (EC.out w1 hb).2 (by omega)
  have e2 : w1.cell? ⟨b, o + m * 3 + 2, none⟩ = some (.int .i64 (-1)) := by rw [hc m x HU.out 2 (by decide)]; simp [scells, HX.out]
  have B := Lib.hid hb
  clear hb M hc
  go_wp2_with fail
  refine (U.out _ B.out).mono ?_
  intro e w2 he
  obtain ⟨v, rfl, ho, hb⟩ := he
  have B2 := Lib.hid (B.out.trans (hb.mono B.out.size))
  have O2 := Lib.hid (own_low ho B.out.size)
  clear ho hb U
  go_wp2
  go_ret2
  exact ⟨v, rfl, O2.out, B2.out⟩
set_option maxRecDepth 100000 in
set_option maxHeartbeats 4000000 in
theorem r9leave_no (p : Option Addr) (n c : Nat) (S : List Sy) (now : Int) (w : World) (h : Rw 3 scells w p n S) (hn : n ≤ 1000000) (hno : ¬ (May S now ∧ On S)) :
    Calls Tryz.prog 64 #[.slice p n c, .int .i64 now] w (NoEnd w) := by
  have M := Lib.hid (r9may_any p n c S now w h hn)
  by_cases hm : May S now
  case neg =>
    rw [mayR_f hm] at M
    clear hno hm h hn
    go_enter Tryz.func64, Tryz.ntmps64
    go_wp2_with fail
    refine M.out.mono ?_
    rintro e w1 ⟨rfl, hb⟩
    have B := Lib.hid hb
    clear hb M
    go_wp2
    go_ret2
    exact ⟨rfl, B.out⟩
  rw [mayR_iff.2 hm] at M
  have EC := Lib.hid (fun (W : World) (hW : Below w.heap.size w W) => h.keep scells_len hW)
  have hlen := h.1
  rcases ends_of S with rfl | ⟨A, x, rfl⟩
  · obtain rfl : n = 0 := by rw [← hlen]; rfl
    clear hno hm h hn hlen EC
    go_enter Tryz.func64, Tryz.ntmps64
    go_wp2_with fail
    refine M.out.mono ?_
    rintro e w1 ⟨rfl, hb⟩
    have B := Lib.hid hb
    clear hb M
    go_wp2
    go_ret2
    exact ⟨rfl, B.out⟩
  · have hx : x.to ≠ -1 := fun e => hno ⟨hm, A, x, rfl, e⟩
    obtain ⟨m, hmm⟩ : ∃ m, A.length = m := ⟨_, rfl⟩
    have hnm : n = m + 1 := by rw [← hlen]; simp [hmm]
    subst hnm
    have hu : (A ++ [x])[m]? = some x := by rw [← hmm]; simp
    have hm1 : (m : Int) ≤ 1000000 := by omega
    have hm0 : ((m : Int) + 1 == 0) = false := by rw [beq_eq_false_iff_ne]; omega
    have hx1 : (x.to != -1) = true := by simp [hx]
    have HU := Lib.hid hu
    clear hu hx hmm hlen hm h hn hno
    go_enter Tryz.func64, Tryz.ntmps64
    go_wp2_with fail
    refine M.out.mono ?_
    rintro e w1 ⟨rfl, hb⟩
    obtain ⟨b, o, rfl, hc⟩ := (EC.out w1 hb).2 (by omega)
    have e2 : w1.cell? ⟨b, o + m * 3 + 2, none⟩ = some (.int .i64 x.to) := hc m x HU.out 2 (by decide)
    have B := Lib.hid hb
    clear hb M hc
    go_wp2
    go_ret2
    exact ⟨rfl, B.out⟩
end Sy
end Go.Proofs.YtkfmkchonlajpaaGreat

namespace Go.Proofs.YtkfmkchonlajpaaGreat
open Go.RowKit

namespace Lo
/-- What an act leaves of the document's stock. -/
def RAc2 (w : World) (B g : Nat) (v : Value) (K : Nat → Prop) (s : Stk) (w' : World) : Prop := ∃ l', lts l' = s.1 ∧ RDone w B g v K s.2 l' w'
theorem ract2_same {w w' : World} {B g : Nat} {v : Value} {given : Int} {l : List Lv} (h : RS w B g v given l) (hb : Below w.heap.size w w') : RAc2 w B g v (Bks l) (lts l, given) w' := ⟨l, rfl, rdone_same h hb⟩
/-- A store into a lot's cell. -/
theorem rs_cell {W : World} {B g b n d : Nat} {given : Int} {l : List Lv} (h : RS W B g (.slice (some ⟨b, 0, none⟩) n d) given l) (hn : l.length = n) {i : Nat} {y y' : Lv} (hy : l[i]? = some y) {j : Nat} (hj : j < 8) {u : Value} (he : lcells y' = (lcells y).set j u) (hs : St W y') (hk : ∀ k, Bk y' k → k ≠ g ∧ b ≠ k) :
    RS (W.setCell ⟨b, i * 8 + j, none⟩ u) B g (.slice (some ⟨b, 0, none⟩) n d) given (l.set i y') := by
  have hr := h.row
  rw [hn] at hr
  have hbg : b ≠ g := fun e => own_blk_ne hr h.blk (by decide) (by rw [e]; rfl)
  have hT : Turn (fun k => k = b) W (W.setCell ⟨b, i * 8 + j, none⟩ u) := (Turn.refl (fun k => k = b) W).setCell (p := ⟨b, i * 8 + j, none⟩) (.inl rfl) _
  refine ⟨h.base, h.blk.turn hT (fun e => hbg e.symm), ?_, fun z hz => ?_, fun z hz k hkz => ?_⟩
  · rw [List.length_set, hn]
    exact row_store lcells_len hr hy hj he
  · rcases List.mem_or_eq_of_mem_set hz with hz | rfl
    · exact (h.stays z hz).turn hT (fun k hkz e => (h.apart z hz k hkz).2 (by rw [e]; rfl))
    · exact hs.turn hT (fun k hkz e => (hk k hkz).2 e.symm)
  · rcases List.mem_or_eq_of_mem_set hz with hz | rfl
    · exact h.apart z hz k hkz
    · exact ⟨(hk k hkz).1, fun e => (hk k hkz).2 (by simpa [Value.ownBlock] using e)⟩
theorem lts_set {l : List Lv} {i : Nat} {y : Lv} : lts (l.set i y) = (lts l).set i y.x := by unfold lts; rw [List.map_set]
theorem mark_none {s : Stk} {id st order grant : Int} (h : at_ id s.1 = none) : markS s id st order grant = (5, s) := by unfold markS; rw [h]
theorem mark_some {s : Stk} {id st order grant : Int} {i : Nat} {x : Lt} (h : at_ id s.1 = some i) (hx : s.1[i]? = some x) :
    markS s id st order grant = if st < 0 ∨ 4 < st ∨ order < 0 ∨ grant < 0 then (1, s) else (0, (s.1.set i { x with status := st, order := order, grant := grant }, s.2)) := by
  unfold markS
  rw [h]
  simp only [hx]
theorem at_of {l : List Lv} {id : Int} {i : Nat} (h : at_ id (lts l) = some i) : ∃ y, l[i]? = some y ∧ (lts l)[i]? = some y.x := by
  have hi := at_lt h
  have hi2 : i < l.length := by simpa [lts] using hi
  exact ⟨l[i], List.getElem?_eq_getElem hi2, by unfold lts; rw [List.getElem?_map, List.getElem?_eq_getElem hi2]; rfl⟩
set_option maxRecDepth 100000 in
set_option maxHeartbeats 16000000 in
theorem rmark_any (B g : Nat) (v : Value) (given : Int) (l : List Lv) (id st order grant : Int) (w : World) (h : RS w B g v given l) (hL : l.length ≤ 1000000) :
    Calls Tryz.prog 32 #[.pointer (some ⟨g, 0, none⟩), .int .i64 id, .int .i64 st, .int .i64 order, .int .i64 grant] w fun e w' =>
      e = .returned (.int .i64 ((markS (lts l, given) id st order grant).1 : Nat)) ∧ RAc2 w B g v (Bks l) (markS (lts l, given) id st order grant).2 w' := by
  have C := Lib.hid (rat_any B g v given l id w h hL)
  have HE := Lib.hid (ract2_same h (Below.refl _ _))
  cases ha : at_ id (lts l) with
  | none =>
    rw [atI_none ha] at C
    rw [mark_none ha]
    clear ha h
    go_enter Tryz.func32, Tryz.ntmps32
    go_wp2_with fail
    refine C.out.mono ?_
    rintro e w' ⟨rfl, rfl⟩
    go_wp2
    go_ret
    exact ⟨rfl, HE.out⟩
  | some i =>
    obtain ⟨y, hy, hyx⟩ := at_of ha
    rw [mark_some ha hyx]
    rw [atI_some ha] at C
    obtain ⟨q0, d0, rfl⟩ := rs_slice h
    obtain ⟨n, hn⟩ : ∃ n, l.length = n := ⟨_, rfl⟩
    rw [hn] at hL h
    obtain ⟨b, e, hBb, hbg, hc⟩ := rs_at h hn hy
    subst e
    have hi : (i : Int) < (n : Int) := by have := (List.getElem?_eq_some_iff.1 hy).1; omega
    have hL' : (n : Int) ≤ 1000000 := by omega
    have hi0 : ¬ (i : Int) < 0 := by omega
    by_cases hbad : st < 0 ∨ 4 < st ∨ order < 0 ∨ grant < 0
    · rw [if_pos hbad]
      have c : st < 0 ∨ (¬ st < 0 ∧ 4 < st) ∨ (¬ st < 0 ∧ ¬ 4 < st ∧ order < 0) ∨ (¬ st < 0 ∧ ¬ 4 < st ∧ ¬ order < 0 ∧ grant < 0) := by omega
      clear hbad h hy hyx ha hc hn
      rcases c with h1 | ⟨h1, h2⟩ | ⟨h1, h2, h3⟩ | ⟨h1, h2, h3, h4⟩
      all_goals
        go_enter Tryz.func32, Tryz.ntmps32
        go_wp2_with fail
        refine C.out.mono ?_
        rintro e w' ⟨rfl, rfl⟩
        go_wp2
        go_ret
        exact ⟨rfl, HE.out⟩
    · rw [if_neg hbad]
      have h1 : ¬ st < 0 := fun e => hbad (.inl e)
      have h2 : ¬ 4 < st := fun e => hbad (.inr (.inl e))
      have h3 : ¬ order < 0 := fun e => hbad (.inr (.inr (.inl e)))
      have h4 : ¬ grant < 0 := fun e => hbad (.inr (.inr (.inr e)))
      have hst := h.stays y (List.mem_of_getElem? hy)
      have hap : ∀ k, Bk y k → k ≠ g ∧ b ≠ k := fun k hk => ⟨(h.apart y (List.mem_of_getElem? hy) k hk).1, fun e => (h.apart y (List.mem_of_getElem? hy) k hk).2 (by rw [e]; rfl)⟩
      obtain ⟨⟨i1, i2, i3, i4, i5, i6, i7, S⟩, p, m, c⟩ := y
      have k6 : w.cell? ⟨b, i * 8 + 6, none⟩ = some (.int .i64 i7) := hc w (Below.refl _ _) 6 (by decide)
      have k5 : w.cell? ⟨b, i * 8 + 5, none⟩ = some (.int .i64 i6) := hc w (Below.refl _ _) 5 (by decide)
      have k4 : w.cell? ⟨b, i * 8 + 4, none⟩ = some (.int .i64 i5) := hc w (Below.refl _ _) 4 (by decide)
      have hr := h.row
      rw [hn] at hr
      have m0 : w.cell? ⟨g, 0, none⟩ = some (.slice (some ⟨b, 0, none⟩) n d0) := h.blk.cell 0
      have fz := fun j => hr.frozenAt j
      have f6 : w.frozen? ⟨b, i * 8 + 6, none⟩ = false := fz _
      have R1 := rs_cell h hn hy (y' := ⟨⟨i1, i2, i3, i4, i5, i6, st, S⟩, p, m, c⟩) (j := 6) (by decide) (u := .int .i64 st) rfl hst hap
      have T1 : Turn (RFoot g (.slice (some ⟨b, 0, none⟩) n d0)) w (w.setCell ⟨b, i * 8 + 6, none⟩ (.int .i64 st)) := (Turn.refl _ w).setCell (p := ⟨b, i * 8 + 6, none⟩) (.inl (.inr rfl)) _
      have hst1 : St (w.setCell ⟨b, i * 8 + 6, none⟩ (.int .i64 st)) ⟨⟨i1, i2, i3, i4, i5, i6, st, S⟩, p, m, c⟩ := R1.stays _ (List.mem_set (by have := (List.getElem?_eq_some_iff.1 hy).1; exact this) _)
      have HG := Lib.hid hi
      obtain ⟨w1, hw1⟩ : ∃ w1, w.setCell ⟨b, i * 8 + 6, none⟩ (.int .i64 st) = w1 := ⟨_, rfl⟩
      rw [hw1] at R1 T1 hst1
      have hlen : i < l.length := (List.getElem?_eq_some_iff.1 hy).1
      have hy1 : (l.set i ⟨⟨i1, i2, i3, i4, i5, i6, st, S⟩, p, m, c⟩)[i]? = some ⟨⟨i1, i2, i3, i4, i5, i6, st, S⟩, p, m, c⟩ := List.getElem?_set_self hlen
      have hr1 := R1.row
      rw [List.length_set, hn] at hr1
      have R2 := rs_cell R1 (by rw [List.length_set, hn]) hy1 (y' := ⟨⟨i1, i2, i3, i4, i5, order, st, S⟩, p, m, c⟩) (j := 5) (by decide) (u := .int .i64 order) rfl hst1 hap
      have T2 := T1.setCell (p := ⟨b, i * 8 + 5, none⟩) (.inl (.inr rfl)) (.int .i64 order)
      have hst2 : St (w1.setCell ⟨b, i * 8 + 5, none⟩ (.int .i64 order)) ⟨⟨i1, i2, i3, i4, i5, order, st, S⟩, p, m, c⟩ := R2.stays _ (List.mem_set (by rw [List.length_set]; exact hlen) _)
      have f5 : w1.frozen? ⟨b, i * 8 + 5, none⟩ = false := hr1.frozenAt _
      have m1 : w1.cell? ⟨g, 0, none⟩ = some (.slice (some ⟨b, 0, none⟩) n d0) := R1.blk.cell 0
      have q5 : w1.cell? ⟨b, i * 8 + 5, none⟩ = some (.int .i64 i6) := row_cell lcells_len hr1 (by rw [List.length_set, hn]) hy1 (by decide)
      obtain ⟨w2, hw2⟩ : ∃ w2, w1.setCell ⟨b, i * 8 + 5, none⟩ (.int .i64 order) = w2 := ⟨_, rfl⟩
      rw [hw2] at R2 T2 hst2
      rw [List.set_set] at R2
      have hy2 : (l.set i ⟨⟨i1, i2, i3, i4, i5, order, st, S⟩, p, m, c⟩)[i]? = some ⟨⟨i1, i2, i3, i4, i5, order, st, S⟩, p, m, c⟩ := List.getElem?_set_self hlen
      have hr2 := R2.row
      rw [List.length_set, hn] at hr2
      have R3 := rs_cell R2 (by rw [List.length_set, hn]) hy2 (y' := ⟨⟨i1, i2, i3, i4, grant, order, st, S⟩, p, m, c⟩) (j := 4) (by decide) (u := .int .i64 grant) rfl hst2 hap
      rw [List.set_set] at R3
      have T3 := T2.setCell (p := ⟨b, i * 8 + 4, none⟩) (.inl (.inr rfl)) (.int .i64 grant)
      have f4 : w2.frozen? ⟨b, i * 8 + 4, none⟩ = false := hr2.frozenAt _
      have m2 : w2.cell? ⟨g, 0, none⟩ = some (.slice (some ⟨b, 0, none⟩) n d0) := R2.blk.cell 0
      have q4 : w2.cell? ⟨b, i * 8 + 4, none⟩ = some (.int .i64 i5) := row_cell lcells_len hr2 (by rw [List.length_set, hn]) hy2 (by decide)
      have FIN : Hid (RAc2 w B g (.slice (some ⟨b, 0, none⟩) n d0) (Bks l) ((lts l).set i ⟨i1, i2, i3, i4, grant, order, st, S⟩, given) (w2.setCell ⟨b, i * 8 + 4, none⟩ (.int .i64 grant))) :=
        Lib.hid ⟨_, lts_set, _, R3, T3, fun k hk => .inl hk, fun k hk => .inl (bks_same (y' := ⟨⟨i1, i2, i3, i4, grant, order, st, S⟩, p, m, c⟩) hy (fun _ hh => hh) hk)⟩
      clear hbad h hy hyx ha hc hn hst hap R1 T1 hst1 hr1 R2 T2 hst2 hr2 R3 T3 hy1 hy2 hr fz hlen k5 k4 HE
      go_enter Tryz.func32, Tryz.ntmps32
      go_wp2_with fail
      refine C.out.mono ?_
      rintro e w' ⟨rfl, rfl⟩
      go_wp2
      go_ret
      exact ⟨rfl, FIN.out⟩
theorem give_bad {s : Stk} {id : Int} (h : id < s.2 ∨ 256 < id) : giveS s id = (1, s) := by unfold giveS; rw [if_pos h]
theorem give_ok {s : Stk} {id : Int} (h : ¬ (id < s.2 ∨ 256 < id)) : giveS s id = (0, (s.1, id)) := by unfold giveS; rw [if_neg h]
theorem RS.gave {W : World} {B g : Nat} {v : Value} {given : Int} {l : List Lv} (h : RS W B g v given l) (u : Int) : RS (W.setCell ⟨g, 1, none⟩ (.int .i64 u)) B g v u l := by
  have hT : Turn (fun k => k = g) W (W.setCell ⟨g, 1, none⟩ (.int .i64 u)) := (Turn.refl (fun k => k = g) W).setCell (p := ⟨g, 1, none⟩) (.inl rfl) _
  exact ⟨h.base, by simpa using h.blk.set_ 1 (.int .i64 u), own_turn h.row hT (fun k hk e => own_blk_ne h.row h.blk (by decide) (by rw [hk, e])), fun y hy => (h.stays y hy).turn hT (fun k hk e => (h.apart y hy k hk).1 e), h.apart⟩
end Lo
end Go.Proofs.YtkfmkchonlajpaaGreat

namespace Go.Proofs.YtkfmkchonlajpaaGreat
open Go.RowKit

namespace Lo
/-- Stays that are handed out, without an error: they lie at a new place. -/
theorem ok_new {L : List Sy.Sy} {w w' : World} {e : Ending} (h : Sy.OkEnd L w e w') : ∃ q n c, e = .returned (.tuple #[.slice q n c, .int .i64 0]) ∧ n ≤ c ∧ Rw 3 Sy.scells w' q n L ∧ (∀ k, (0 < n ∧ ∃ a, q = some a ∧ a.block = k) → w.heap.size ≤ k) ∧ Below w.heap.size w w' := by
  obtain ⟨v, rfl, ho, hb⟩ := h
  obtain ⟨q, c, rfl, hc, hr⟩ := rw_own Sy.scells_len ho
  refine ⟨q, L.length, c, rfl, hc, hr, fun k hk => ?_, hb⟩
  obtain ⟨h0, a, rfl, rfl⟩ := hk
  obtain ⟨b, cc, e, h1, _, _⟩ := own_some ho h0
  injection e with e _ _
  injection e with e
  rw [e]
  exact h1
open Classical in
theorem leave_none {s : Stk} {id now : Int} (h : at_ id s.1 = none) : leaveS s id now = (5, s) := by unfold leaveS; rw [h]
open Classical in
theorem leave_some {s : Stk} {id now : Int} {i : Nat} {x : Lt} (h : at_ id s.1 = some i) (hx : s.1[i]? = some x) :
    leaveS s id now = if Sy.May x.stays now ∧ Sy.On x.stays then (0, (s.1.set i { x with stays := Sy.untilS x.stays now }, s.2)) else (1, s) := by
  unfold leaveS
  rw [h]
  simp only [hx]
  rfl
/-- Other stays for a lot. -/
theorem rs_stays {w w1 : World} {B g b n d i : Nat} {given : Int} {l : List Lv} {y : Lv} {L : List Sy.Sy} {q : Option Addr} {m c : Nat} (hb : Below w.heap.size w w1) (h : RS w B g (.slice (some ⟨b, 0, none⟩) n d) given l) (hn : l.length = n) (hy : l[i]? = some y)
    (hr : Rw 3 Sy.scells w1 q m L) (hc : m ≤ c) (hk : ∀ k, (0 < m ∧ ∃ a, q = some a ∧ a.block = k) → w.heap.size ≤ k) :
    RAc2 w B g (.slice (some ⟨b, 0, none⟩) n d) (Bks l) ((lts l).set i { y.x with stays := L }, given) (w1.setCell ⟨b, i * 8 + 7, none⟩ (.slice q m c)) := by
  have h1 := h.keep hb
  have hrow := h.row
  rw [hn] at hrow
  have hbl := (own_lt hrow (k := b) rfl).2
  have hgl := h.blk.lt
  have R := rs_cell h1 hn hy (y' := ⟨{ y.x with stays := L }, q, m, c⟩) (j := 7) (by decide) (u := .slice q m c) rfl ⟨hr, hc⟩ (fun k hk' => by
    have := hk k hk'
    exact ⟨by omega, by omega⟩)
  exact ⟨_, lts_set, _, R, (Turn.of_below hb).setCell (p := ⟨b, i * 8 + 7, none⟩) (.inl (.inr rfl)) _, fun k hk => .inl hk, fun k hk' => (bks_set hk').imp id (hk k)⟩
set_option maxRecDepth 100000 in
set_option maxHeartbeats 16000000 in
theorem rleave_any (B g : Nat) (v : Value) (given : Int) (l : List Lv) (id now : Int) (w : World) (h : RS w B g v given l) (hG : Good (lts l, given)) :
    Calls Tryz.prog 33 #[.pointer (some ⟨g, 0, none⟩), .int .i64 id, .int .i64 now] w fun e w' =>
      e = .returned (.int .i64 ((leaveS (lts l, given) id now).1 : Nat)) ∧ RAc2 w B g v (Bks l) (leaveS (lts l, given) id now).2 w' := by
  have hL : l.length ≤ 256 := by have := good_len hG; simpa [lts] using this
  have C := Lib.hid (rat_any B g v given l id w h (by omega))
  have HE := Lib.hid (fun W (hW : Below w.heap.size w W) => ract2_same h hW)
  cases ha : at_ id (lts l) with
  | none =>
    rw [atI_none ha] at C
    rw [leave_none ha]
    clear ha h
    go_enter Tryz.func33, Tryz.ntmps33
    go_wp2_with fail
    refine C.out.mono ?_
    rintro e w' ⟨rfl, rfl⟩
    go_wp2
    go_ret
    exact ⟨rfl, HE.out _ (Below.refl _ _)⟩
  | some i =>
    obtain ⟨y, hy, hyx⟩ := at_of ha
    rw [leave_some ha hyx]
    rw [atI_some ha] at C
    obtain ⟨q0, d0, rfl⟩ := rs_slice h
    obtain ⟨n, hn⟩ : ∃ n, l.length = n := ⟨_, rfl⟩
    rw [hn] at hL h
    obtain ⟨b, e, hBb, hbg, hc⟩ := rs_at h hn hy
    subst e
    have hi : (i : Int) < (n : Int) := by have := (List.getElem?_eq_some_iff.1 hy).1; omega
    have hL' : (n : Int) ≤ 256 := by omega
    have hi0 : ¬ (i : Int) < 0 := by omega
    have hst := h.stays y (List.mem_of_getElem? hy)
    have hlong : y.n ≤ 1000000 := by
      have := hG.long y.x (List.mem_of_getElem? hyx)
      rw [hst.len] at this
      omega
    have m0 : w.cell? ⟨g, 0, none⟩ = some (.slice (some ⟨b, 0, none⟩) n d0) := h.blk.cell 0
    have k7 : w.cell? ⟨b, i * 8 + 7, none⟩ = some (.slice y.p y.n y.c) := hc w (Below.refl _ _) 7 (by decide)
    by_cases hok : Sy.May y.x.stays now ∧ Sy.On y.x.stays
    · rw [if_pos hok]
      have CL := Lib.hid (Sy.r9leave_yes y.p y.n y.c y.x.stays now w hst.1 hlong hok.1 hok.2)
      have FIN := Lib.hid (fun w1 q m c (hb : Below w.heap.size w w1) (hr : Rw 3 Sy.scells w1 q m (Sy.untilS y.x.stays now)) (hc : m ≤ c) (hk : ∀ k, (0 < m ∧ ∃ a, q = some a ∧ a.block = k) → w.heap.size ≤ k) => rs_stays (c := c) hb h hn hy hr hc hk)
      have HK := Lib.hid (fun w1 (hb : Below w.heap.size w w1) => h.keep hb)
      have HC := Lib.hid hc
      have HN := Lib.hid hn
      clear hok hst hlong h hy hyx ha hc hn hG HE
      obtain ⟨⟨i1, i2, i3, i4, i5, i6, i7, S⟩, p, pn, pc⟩ := y
      go_enter Tryz.func33, Tryz.ntmps33
      go_wp2_with fail
      refine C.out.mono ?_
      rintro e w' ⟨rfl, rfl⟩
      go_wp2_with fail
      refine (CL.out.mono (fun e w1 hh => ok_new hh)).mono ?_
      intro e w1 he
      obtain ⟨q, m, c, rfl, hcm, hr, hk, hb⟩ := he
      have RK := HK.out w1 hb
      have n0 : w1.cell? ⟨g, 0, none⟩ = some (.slice (some ⟨b, 0, none⟩) n d0) := RK.blk.cell 0
      have r7 : w1.cell? ⟨b, i * 8 + 7, none⟩ = some (.slice p pn pc) := HC.out w1 hb 7 (by decide)
      have hrow := RK.row
      rw [HN.out] at hrow
      have f7 : w1.frozen? ⟨b, i * 8 + 7, none⟩ = false := hrow.frozenAt _
      have FF := Lib.hid (FIN.out w1 q m c hb hr hcm hk)
      clear hb hr hcm hk RK hrow FIN HK HC CL C m0 k7
      go_wp2
      go_ret
      exact ⟨rfl, FF.out⟩
    · rw [if_neg hok]
      have CL := Lib.hid (Sy.r9leave_no y.p y.n y.c y.x.stays now w hst.1 hlong hok)
      clear hok hst hlong h hy hyx ha hc hn hG
      obtain ⟨⟨i1, i2, i3, i4, i5, i6, i7, S⟩, p, pn, pc⟩ := y
      go_enter Tryz.func33, Tryz.ntmps33
      go_wp2_with fail
      refine C.out.mono ?_
      rintro e w' ⟨rfl, rfl⟩
      go_wp2_with fail
      refine CL.out.mono ?_
      rintro e w1 ⟨rfl, hb⟩
      have HF := Lib.hid (HE.out w1 hb)
      clear hb HE CL C m0 k7
      go_wp2
      go_ret
      exact ⟨rfl, HF.out⟩
end Lo
end Go.Proofs.YtkfmkchonlajpaaGreat

namespace Go.Proofs.YtkfmkchonlajpaaGreat
open Go.RowKit

namespace Ms
theorem ft_any (n a b : Int) (w : World) : Calls Tryz.prog 72 #[.int .i64 n, .int .i64 a, .int .i64 b] w fun e w' => e = .returned (.bool (ft n a b)) ∧ w = w' := by
  by_cases h1 : a ≤ n
  · by_cases h2 : n ≤ b
    · have E := Lib.hid (ft_t.2 ⟨h1, h2⟩)
      go_enter Tryz.func72, Tryz.ntmps72
      go_wp2
      go_ret
      exact ⟨by rw [E.out]; rfl, rfl⟩
    · have E := Lib.hid (ft_f.2 (fun h : a ≤ n ∧ n ≤ b => h2 h.2))
      have h2' : decide (n ≤ b) = false := by simpa using h2
      go_enter Tryz.func72, Tryz.ntmps72
      go_wp2
      go_ret
      exact ⟨by rw [E.out]; rfl, rfl⟩
  · have E := Lib.hid (ft_f.2 (fun h : a ≤ n ∧ n ≤ b => h1 h.1))
    have h1' : decide (a ≤ n) = false := by simpa using h1
    go_enter Tryz.func72, Tryz.ntmps72
    go_wp2
    go_ret
    exact ⟨by rw [E.out]; rfl, rfl⟩
theorem tenth_any (n : Int) (w : World) : Calls Tryz.prog 73 #[.int .i64 n] w fun e w' => e = .returned (.bool (ft n (-1099511627776) 1099511627776)) ∧ w = w' := by
  have C := Lib.hid (fun W => ft_any n (-1099511627776) 1099511627776 W)
  generalize ft n (-1099511627776) 1099511627776 = u at *
  go_enter Tryz.func73, Tryz.ntmps73
  go_wp2_with fail
  refine (C.out _).mono ?_
  rintro e w' ⟨rfl, rfl⟩
  go_wp2
  go_ret
  exact ⟨rfl, rfl⟩
theorem minutes_any (n : Int) (w : World) : Calls Tryz.prog 74 #[.int .i64 n] w fun e w' => e = .returned (.bool (ft n 0 1048575)) ∧ w = w' := by
  have C := Lib.hid (fun W => ft_any n 0 1048575 W)
  generalize ft n 0 1048575 = u at *
  go_enter Tryz.func74, Tryz.ntmps74
  go_wp2_with fail
  refine (C.out _).mono ?_
  rintro e w' ⟨rfl, rfl⟩
  go_wp2
  go_ret
  exact ⟨rfl, rfl⟩
theorem rten_any (n : Int) (w : World) : Calls Tryz.prog 80 #[.int .i64 n] w fun e w' => e = .returned (.bool (ft n (-1099511627776) 1099511627776)) ∧ w = w' := by
  by_cases h1 : -1099511627776 ≤ n
  · by_cases h2 : n ≤ 1099511627776
    · have E := Lib.hid (ft_t.2 ⟨h1, h2⟩)
      go_enter Tryz.func80, Tryz.ntmps80
      go_wp2
      go_ret
      exact ⟨by rw [E.out]; rfl, rfl⟩
    · have E := Lib.hid (ft_f.2 (fun h : -1099511627776 ≤ n ∧ n ≤ 1099511627776 => h2 h.2))
      have h2' : decide (n ≤ 1099511627776) = false := by simpa using h2
      go_enter Tryz.func80, Tryz.ntmps80
      go_wp2
      go_ret
      exact ⟨by rw [E.out]; rfl, rfl⟩
  · have E := Lib.hid (ft_f.2 (fun h : -1099511627776 ≤ n ∧ n ≤ 1099511627776 => h1 h.1))
    have h1' : decide (-1099511627776 ≤ n) = false := by simpa using h1
    go_enter Tryz.func80, Tryz.ntmps80
    go_wp2
    go_ret
    exact ⟨by rw [E.out]; rfl, rfl⟩
set_option maxRecDepth 100000 in
set_option maxHeartbeats 2000000 in
theorem maybeZ_any (x : Zn) (w : World) : Calls Tryz.prog 45 #[zval x] w fun e w' => e = .returned (.bool (rightZ x)) ∧ Below w.heap.size w w' := by
  obtain ⟨a, b, c, d, e, f⟩ := x
  unfold zval rightZ
  simp only
  have B := Lib.hid (alloc_below w (.cells #[.int .i64 a, .int .i64 b, .int .i64 c, .int .i64 d, .bool e, .int .i64 f] 61))
  have C0 := Lib.hid (fun W => ft_any a 1 16 W)
  generalize ft a (1) 16 = u0 at *
  have C1 := Lib.hid (fun W => tenth_any b W)
  generalize ft b (-1099511627776) 1099511627776 = u1 at *
  have C2 := Lib.hid (fun W => minutes_any c W)
  generalize ft c (0) 1048575 = u2 at *
  have C3 := Lib.hid (fun W => ft_any d 0 1048576 W)
  generalize ft d (0) 1048576 = u3 at *
  have C4 := Lib.hid (fun W => minutes_any f W)
  generalize ft f (0) 1048575 = u4 at *
  cases u0
  case false =>
    go_enter Tryz.func45, Tryz.ntmps45
    go_wp2_with fail
    refine (C0.out _).mono ?_
    rintro e w' ⟨rfl, rfl⟩
    go_wp2
    go_ret
    exact ⟨rfl, B.out⟩
  cases u1
  case false =>
    go_enter Tryz.func45, Tryz.ntmps45
    go_wp2_with fail
    refine (C0.out _).mono ?_
    rintro e w' ⟨rfl, rfl⟩
    go_wp2_with fail
    refine (C1.out _).mono ?_
    rintro e w' ⟨rfl, rfl⟩
    go_wp2
    go_ret
    exact ⟨rfl, B.out⟩
  cases u2
  case false =>
    go_enter Tryz.func45, Tryz.ntmps45
    go_wp2_with fail
    refine (C0.out _).mono ?_
    rintro e w' ⟨rfl, rfl⟩
    go_wp2_with fail
    refine (C1.out _).mono ?_
    rintro e w' ⟨rfl, rfl⟩
    go_wp2_with fail
    refine (C2.out _).mono ?_
    rintro e w' ⟨rfl, rfl⟩
    go_wp2
    go_ret
    exact ⟨rfl, B.out⟩
  cases u3
  case false =>
    go_enter Tryz.func45, Tryz.ntmps45
    go_wp2_with fail
    refine (C0.out _).mono ?_
    rintro e w' ⟨rfl, rfl⟩
    go_wp2_with fail
    refine (C1.out _).mono ?_
    rintro e w' ⟨rfl, rfl⟩
    go_wp2_with fail
    refine (C2.out _).mono ?_
    rintro e w' ⟨rfl, rfl⟩
    go_wp2_with fail
    refine (C3.out _).mono ?_
    rintro e w' ⟨rfl, rfl⟩
    go_wp2
    go_ret
    exact ⟨rfl, B.out⟩
  cases u4
  case false =>
    go_enter Tryz.func45, Tryz.ntmps45
    go_wp2_with fail
    refine (C0.out _).mono ?_
    rintro e w' ⟨rfl, rfl⟩
    go_wp2_with fail
    refine (C1.out _).mono ?_
    rintro e w' ⟨rfl, rfl⟩
    go_wp2_with fail
    refine (C2.out _).mono ?_
    rintro e w' ⟨rfl, rfl⟩
    go_wp2_with fail
    refine (C3.out _).mono ?_
    rintro e w' ⟨rfl, rfl⟩
    go_wp2_with fail
    refine (C4.out _).mono ?_
    rintro e w' ⟨rfl, rfl⟩
    go_wp2
    go_ret
    exact ⟨rfl, B.out⟩
  go_enter Tryz.func45, Tryz.ntmps45
  go_wp2_with fail
  refine (C0.out _).mono ?_
  rintro e w' ⟨rfl, rfl⟩
  go_wp2_with fail
  refine (C1.out _).mono ?_
  rintro e w' ⟨rfl, rfl⟩
  go_wp2_with fail
  refine (C2.out _).mono ?_
  rintro e w' ⟨rfl, rfl⟩
  go_wp2_with fail
  refine (C3.out _).mono ?_
  rintro e w' ⟨rfl, rfl⟩
  go_wp2_with fail
  refine (C4.out _).mono ?_
  rintro e w' ⟨rfl, rfl⟩
  go_wp2
  go_ret
  exact ⟨rfl, B.out⟩
set_option maxRecDepth 100000 in
set_option maxHeartbeats 2000000 in
theorem maybeP_any (x : Pd) (w : World) : Calls Tryz.prog 47 #[pval x] w fun e w' => e = .returned (.bool (rightP x)) ∧ Below w.heap.size w w' := by
  obtain ⟨a, b, c⟩ := x
  unfold pval rightP
  simp only
  have B := Lib.hid (alloc_below w (.cells #[.int .i64 a, .int .i64 b, .int .i64 c] 64))
  have C0 := Lib.hid (fun W => ft_any a 1 16 W)
  generalize ft a (1) 16 = u0 at *
  have C1 := Lib.hid (fun W => tenth_any b W)
  generalize ft b (-1099511627776) 1099511627776 = u1 at *
  have C2 := Lib.hid (fun W => ft_any c 0 4611686018427387904 W)
  generalize ft c (0) 4611686018427387904 = u2 at *
  cases u0
  case false =>
    go_enter Tryz.func47, Tryz.ntmps47
    go_wp2_with fail
    refine (C0.out _).mono ?_
    rintro e w' ⟨rfl, rfl⟩
    go_wp2
    go_ret
    exact ⟨rfl, B.out⟩
  cases u1
  case false =>
    go_enter Tryz.func47, Tryz.ntmps47
    go_wp2_with fail
    refine (C0.out _).mono ?_
    rintro e w' ⟨rfl, rfl⟩
    go_wp2_with fail
    refine (C1.out _).mono ?_
    rintro e w' ⟨rfl, rfl⟩
    go_wp2
    go_ret
    exact ⟨rfl, B.out⟩
  cases u2
  case false =>
    go_enter Tryz.func47, Tryz.ntmps47
    go_wp2_with fail
    refine (C0.out _).mono ?_
    rintro e w' ⟨rfl, rfl⟩
    go_wp2_with fail
    refine (C1.out _).mono ?_
    rintro e w' ⟨rfl, rfl⟩
    go_wp2_with fail
    refine (C2.out _).mono ?_
    rintro e w' ⟨rfl, rfl⟩
    go_wp2
    go_ret
    exact ⟨rfl, B.out⟩
  go_enter Tryz.func47, Tryz.ntmps47
  go_wp2_with fail
  refine (C0.out _).mono ?_
  rintro e w' ⟨rfl, rfl⟩
  go_wp2_with fail
  refine (C1.out _).mono ?_
  rintro e w' ⟨rfl, rfl⟩
  go_wp2_with fail
  refine (C2.out _).mono ?_
  rintro e w' ⟨rfl, rfl⟩
  go_wp2
  go_ret
  exact ⟨rfl, B.out⟩
set_option maxRecDepth 100000 in
set_option maxHeartbeats 4000000 in
theorem rrightZ_any (x : Zn) (w : World) : Calls Tryz.prog 58 #[zval x] w fun e w' => e = .returned (.bool (rightZ x)) ∧ Below w.heap.size w w' := by
  obtain ⟨a, b, c, d, e, f⟩ := x
  have C := Lib.hid (fun W => rten_any b W)
  have B := Lib.hid (alloc_below w (.cells #[.int .i64 a, .int .i64 b, .int .i64 c, .int .i64 d, .bool e, .int .i64 f] 61))
  have E : Hid (rightZ ⟨a, b, c, d, e, f⟩ = (ft a 1 16 && (ft b (-1099511627776) 1099511627776 && (ft c 0 1048575 && (ft d 0 1048576 && ft f 0 1048575))))) := Lib.hid rfl
  rw [E.out]
  clear E
  unfold zval
  generalize ft b (-1099511627776) 1099511627776 = u at *
  simp only
  cases u
  case false =>
    have E : Hid (((ft a 1 16 && (false && (ft c 0 1048575 && (ft d 0 1048576 && ft f 0 1048575))))) = false) := Lib.hid (by simp)
    go_enter Tryz.func58, Tryz.ntmps58
    go_wp2_with fail
    refine (C.out _).mono ?_
    rintro e w' ⟨rfl, rfl⟩
    go_wp2
    go_ret
    exact ⟨by rw [E.out]; rfl, B.out⟩
  by_cases ha0 : 1 ≤ a
  case neg =>
    have E : Hid (((ft a 1 16 && (true && (ft c 0 1048575 && (ft d 0 1048576 && ft f 0 1048575))))) = false) := Lib.hid (by simp [ft_f.2 (fun h : 1 ≤ a ∧ a ≤ 16 => ha0 h.1)])
    have k : decide (1 ≤ a) = false := by simpa using ha0
    go_enter Tryz.func58, Tryz.ntmps58
    go_wp2_with fail
    refine (C.out _).mono ?_
    rintro e w' ⟨rfl, rfl⟩
    go_wp2
    go_ret
    exact ⟨by rw [E.out]; rfl, B.out⟩
  by_cases ha1 : a ≤ 16
  case neg =>
    have E : Hid (((ft a 1 16 && (true && (ft c 0 1048575 && (ft d 0 1048576 && ft f 0 1048575))))) = false) := Lib.hid (by simp [ft_f.2 (fun h : 1 ≤ a ∧ a ≤ 16 => ha1 h.2)])
    have k : decide (a ≤ 16) = false := by simpa using ha1
    go_enter Tryz.func58, Tryz.ntmps58
    go_wp2_with fail
    refine (C.out _).mono ?_
    rintro e w' ⟨rfl, rfl⟩
    go_wp2
    go_ret
    exact ⟨by rw [E.out]; rfl, B.out⟩
  by_cases hc0 : 0 ≤ c
  case neg =>
    have E : Hid (((ft a 1 16 && (true && (ft c 0 1048575 && (ft d 0 1048576 && ft f 0 1048575))))) = false) := Lib.hid (by simp [ft_f.2 (fun h : 0 ≤ c ∧ c ≤ 1048575 => hc0 h.1)])
    have k : decide (0 ≤ c) = false := by simpa using hc0
    go_enter Tryz.func58, Tryz.ntmps58
    go_wp2_with fail
    refine (C.out _).mono ?_
    rintro e w' ⟨rfl, rfl⟩
    go_wp2
    go_ret
    exact ⟨by rw [E.out]; rfl, B.out⟩
  by_cases hc1 : c ≤ 1048575
  case neg =>
    have E : Hid (((ft a 1 16 && (true && (ft c 0 1048575 && (ft d 0 1048576 && ft f 0 1048575))))) = false) := Lib.hid (by simp [ft_f.2 (fun h : 0 ≤ c ∧ c ≤ 1048575 => hc1 h.2)])
    have k : decide (c ≤ 1048575) = false := by simpa using hc1
    go_enter Tryz.func58, Tryz.ntmps58
    go_wp2_with fail
    refine (C.out _).mono ?_
    rintro e w' ⟨rfl, rfl⟩
    go_wp2
    go_ret
    exact ⟨by rw [E.out]; rfl, B.out⟩
  by_cases hd0 : 0 ≤ d
  case neg =>
    have E : Hid (((ft a 1 16 && (true && (ft c 0 1048575 && (ft d 0 1048576 && ft f 0 1048575))))) = false) := Lib.hid (by simp [ft_f.2 (fun h : 0 ≤ d ∧ d ≤ 1048576 => hd0 h.1)])
    have k : decide (0 ≤ d) = false := by simpa using hd0
    go_enter Tryz.func58, Tryz.ntmps58
    go_wp2_with fail
    refine (C.out _).mono ?_
    rintro e w' ⟨rfl, rfl⟩
    go_wp2
    go_ret
    exact ⟨by rw [E.out]; rfl, B.out⟩
  by_cases hd1 : d ≤ 1048576
  case neg =>
    have E : Hid (((ft a 1 16 && (true && (ft c 0 1048575 && (ft d 0 1048576 && ft f 0 1048575))))) = false) := Lib.hid (by simp [ft_f.2 (fun h : 0 ≤ d ∧ d ≤ 1048576 => hd1 h.2)])
    have k : decide (d ≤ 1048576) = false := by simpa using hd1
    go_enter Tryz.func58, Tryz.ntmps58
    go_wp2_with fail
    refine (C.out _).mono ?_
    rintro e w' ⟨rfl, rfl⟩
    go_wp2
    go_ret
    exact ⟨by rw [E.out]; rfl, B.out⟩
  by_cases hf0 : 0 ≤ f
  case neg =>
    have E : Hid (((ft a 1 16 && (true && (ft c 0 1048575 && (ft d 0 1048576 && ft f 0 1048575))))) = false) := Lib.hid (by simp [ft_f.2 (fun h : 0 ≤ f ∧ f ≤ 1048575 => hf0 h.1)])
    have k : decide (0 ≤ f) = false := by simpa using hf0
    go_enter Tryz.func58, Tryz.ntmps58
    go_wp2_with fail
    refine (C.out _).mono ?_
    rintro e w' ⟨rfl, rfl⟩
    go_wp2
    go_ret
    exact ⟨by rw [E.out]; rfl, B.out⟩
  by_cases hf1 : f ≤ 1048575
  case neg =>
    have E : Hid (((ft a 1 16 && (true && (ft c 0 1048575 && (ft d 0 1048576 && ft f 0 1048575))))) = false) := Lib.hid (by simp [ft_f.2 (fun h : 0 ≤ f ∧ f ≤ 1048575 => hf1 h.2)])
    have k : decide (f ≤ 1048575) = false := by simpa using hf1
    go_enter Tryz.func58, Tryz.ntmps58
    go_wp2_with fail
    refine (C.out _).mono ?_
    rintro e w' ⟨rfl, rfl⟩
    go_wp2
    go_ret
    exact ⟨by rw [E.out]; rfl, B.out⟩
  have E : Hid (((ft a 1 16 && (true && (ft c 0 1048575 && (ft d 0 1048576 && ft f 0 1048575))))) = true) := Lib.hid (by simp [ft_t.2 ⟨ha0, ha1⟩, ft_t.2 ⟨hc0, hc1⟩, ft_t.2 ⟨hd0, hd1⟩, ft_t.2 ⟨hf0, hf1⟩])
  go_enter Tryz.func58, Tryz.ntmps58
  go_wp2_with fail
  refine (C.out _).mono ?_
  rintro e w' ⟨rfl, rfl⟩
  go_wp2
  go_ret
  exact ⟨by rw [E.out]; rfl, B.out⟩
set_option maxRecDepth 100000 in
set_option maxHeartbeats 4000000 in
theorem rrightP_any (x : Pd) (w : World) : Calls Tryz.prog 59 #[pval x] w fun e w' => e = .returned (.bool (rightP x)) ∧ Below w.heap.size w w' := by
  obtain ⟨a, b, c⟩ := x
  have C := Lib.hid (fun W => rten_any b W)
  have B := Lib.hid (alloc_below w (.cells #[.int .i64 a, .int .i64 b, .int .i64 c] 64))
  have E : Hid (rightP ⟨a, b, c⟩ = (ft a 1 16 && (ft b (-1099511627776) 1099511627776 && ft c 0 4611686018427387904))) := Lib.hid rfl
  rw [E.out]
  clear E
  unfold pval
  generalize ft b (-1099511627776) 1099511627776 = u at *
  simp only
  cases u
  case false =>
    have E : Hid (((ft a 1 16 && (false && ft c 0 4611686018427387904))) = false) := Lib.hid (by simp)
    go_enter Tryz.func59, Tryz.ntmps59
    go_wp2_with fail
    refine (C.out _).mono ?_
    rintro e w' ⟨rfl, rfl⟩
    go_wp2
    go_ret
    exact ⟨by rw [E.out]; rfl, B.out⟩
  by_cases ha0 : 1 ≤ a
  case neg =>
    have E : Hid (((ft a 1 16 && (true && ft c 0 4611686018427387904))) = false) := Lib.hid (by simp [ft_f.2 (fun h : 1 ≤ a ∧ a ≤ 16 => ha0 h.1)])
    have k : decide (1 ≤ a) = false := by simpa using ha0
    go_enter Tryz.func59, Tryz.ntmps59
    go_wp2_with fail
    refine (C.out _).mono ?_
    rintro e w' ⟨rfl, rfl⟩
    go_wp2
    go_ret
    exact ⟨by rw [E.out]; rfl, B.out⟩
  by_cases ha1 : a ≤ 16
  case neg =>
    have E : Hid (((ft a 1 16 && (true && ft c 0 4611686018427387904))) = false) := Lib.hid (by simp [ft_f.2 (fun h : 1 ≤ a ∧ a ≤ 16 => ha1 h.2)])
    have k : decide (a ≤ 16) = false := by simpa using ha1
    go_enter Tryz.func59, Tryz.ntmps59
    go_wp2_with fail
    refine (C.out _).mono ?_
    rintro e w' ⟨rfl, rfl⟩
    go_wp2
    go_ret
    exact ⟨by rw [E.out]; rfl, B.out⟩
  by_cases hc0 : 0 ≤ c
  case neg =>
    have E : Hid (((ft a 1 16 && (true && ft c 0 4611686018427387904))) = false) := Lib.hid (by simp [ft_f.2 (fun h : 0 ≤ c ∧ c ≤ 4611686018427387904 => hc0 h.1)])
    have k : decide (0 ≤ c) = false := by simpa using hc0
    go_enter Tryz.func59, Tryz.ntmps59
    go_wp2_with fail
    refine (C.out _).mono ?_
    rintro e w' ⟨rfl, rfl⟩
    go_wp2
    go_ret
    exact ⟨by rw [E.out]; rfl, B.out⟩
  by_cases hc1 : c ≤ 4611686018427387904
  case neg =>
    have E : Hid (((ft a 1 16 && (true && ft c 0 4611686018427387904))) = false) := Lib.hid (by simp [ft_f.2 (fun h : 0 ≤ c ∧ c ≤ 4611686018427387904 => hc1 h.2)])
    have k : decide (c ≤ 4611686018427387904) = false := by simpa using hc1
    go_enter Tryz.func59, Tryz.ntmps59
    go_wp2_with fail
    refine (C.out _).mono ?_
    rintro e w' ⟨rfl, rfl⟩
    go_wp2
    go_ret
    exact ⟨by rw [E.out]; rfl, B.out⟩
  have E : Hid (((ft a 1 16 && (true && ft c 0 4611686018427387904))) = true) := Lib.hid (by simp [ft_t.2 ⟨ha0, ha1⟩, ft_t.2 ⟨hc0, hc1⟩])
  go_enter Tryz.func59, Tryz.ntmps59
  go_wp2_with fail
  refine (C.out _).mono ?_
  rintro e w' ⟨rfl, rfl⟩
  go_wp2
  go_ret
  exact ⟨by rw [E.out]; rfl, B.out⟩
end Ms
end Go.Proofs.YtkfmkchonlajpaaGreat

namespace Go.Proofs.YtkfmkchonlajpaaGreat
open Go.RowKit Go.Maps

namespace Ms
theorem infoTZ : (Tryz.prog.info? 61).map (fun i => (i.zero, i.size, i.bytes)) = some (some (.agg #[.int .i64 0, .int .i64 0, .int .i64 0, .int .i64 0, .bool false, .int .i64 0]), 6, 48) := by kernel_rfl
theorem tlookZ {w : World} {B : Nat} {mo : Option Nat} {S : List Zn} (ht : Tab Zf Zn.id w B mo S) {m : Int} (hm : In64 m) (W : World) (hW : Below w.heap.size w W) :
    (Instr.lookup 89 (.map mo) (.int .i64 m) true).run Tryz.prog W = .ok (.tuple #[zval ((findK Zn.id m S).getD zn0), .bool (findK Zn.id m S).isSome]) W := by
  rcases ht with ⟨rfl, rfl⟩ | ⟨b, D, rfl, _, hown, hM⟩
  · rw [Maps.look_nil true lawI Tryz.underlying89 (zeroZ W) (key_of hm)]
    rfl
  · exact look Tryz.underlying89 zn0 zeroZ hown hM hm W (hW.block b hown.lt)
set_option maxRecDepth 100000 in
set_option maxHeartbeats 4000000 in
/-- The one of a number. -/
theorem trowZ (B h : Nat) (mz mp : Option Nat) (S : List Zn) (m : Int) (w : World) (hl : Lies w h 96 #[.map mz, .map mp]) (ht : Tab Zf Zn.id w B mz S) (hm : In64 m) :
    Calls Tryz.prog 87 #[.pointer (some ⟨h, 0, none⟩), .int .i64 m] w fun e w' =>
      e = .returned (.tuple #[zval (getK (findK Zn.id m S) zn0).1, .int .i64 ((getK (findK Zn.id m S) zn0).2 : Nat)]) ∧ Below w.heap.size w w' := by
  have K := fun W hW => tlookZ ht hm W hW
  generalize findK Zn.id m S = o at *
  have B1 := Lib.hid (alloc_below w (.cells #[.int .i64 0, .int .i64 0, .int .i64 0, .int .i64 0, .bool false, .int .i64 0] 61))
  have L1 := Lib.hid (hl.alloc (.cells #[.int .i64 0, .int .i64 0, .int .i64 0, .int .i64 0, .bool false, .int .i64 0] 61))
  have X1 := Lib.hid (Lies.new w 61 #[.int .i64 0, .int .i64 0, .int .i64 0, .int .i64 0, .bool false, .int .i64 0])
  have HS : Hid (w.heap.size < (w.alloc (.cells #[.int .i64 0, .int .i64 0, .int .i64 0, .int .i64 0, .bool false, .int .i64 0] 61)).heap.size) := Lib.hid (by simp)
  obtain ⟨w1, hw1⟩ : ∃ w1, w.alloc (.cells #[.int .i64 0, .int .i64 0, .int .i64 0, .int .i64 0, .bool false, .int .i64 0] 61) = w1 := ⟨_, rfl⟩
  rw [hw1] at B1 L1 X1 HS
  have k1 := K w1 B1.out
  have l0 : w1.cell? ⟨h, 0, none⟩ = some (.map mz) := L1.out.cell 0
  have FC : ∀ ob i, (w1.alloc ob).cell? ⟨w.heap.size, i, none⟩ = w1.cell? ⟨w.heap.size, i, none⟩ := fun ob i => (alloc_below w1 ob).cell (p := ⟨w.heap.size, i, none⟩) HS.out
  have FG : ∀ ob i, (w1.alloc ob).frozen? ⟨w.heap.size, i, none⟩ = w1.frozen? ⟨w.heap.size, i, none⟩ := fun ob i => (alloc_below w1 ob).frozen (p := ⟨w.heap.size, i, none⟩) HS.out
  clear K ht hm hl
  have r0 : w1.cell? ⟨w.heap.size, 0, none⟩ = some (.int .i64 0) := X1.out.cell 0
  have g0 := X1.out.frozen 0
  have r1 : w1.cell? ⟨w.heap.size, 1, none⟩ = some (.int .i64 0) := X1.out.cell 1
  have g1 := X1.out.frozen 1
  have r2 : w1.cell? ⟨w.heap.size, 2, none⟩ = some (.int .i64 0) := X1.out.cell 2
  have g2 := X1.out.frozen 2
  have r3 : w1.cell? ⟨w.heap.size, 3, none⟩ = some (.int .i64 0) := X1.out.cell 3
  have g3 := X1.out.frozen 3
  have r4 : w1.cell? ⟨w.heap.size, 4, none⟩ = some (.bool false) := X1.out.cell 4
  have g4 := X1.out.frozen 4
  have r5 : w1.cell? ⟨w.heap.size, 5, none⟩ = some (.int .i64 0) := X1.out.cell 5
  have g5 := X1.out.frozen 5
  cases o with
  | none =>
    simp only [Option.getD_none, Option.isSome_none, zn0, zval] at k1
    go_enter Tryz.func87, Tryz.ntmps87
    go_wp2
    refine bodyPost_ret (v := .tuple #[zval zn0, .int .i64 5]) (by simp [results, Tryz.results87, go_sem, zval, zn0, r0, r1, r2, r3, r4, r5, FC]) rfl ⟨rfl, ?_⟩
    iterate 6 refine Below.setCell ?_ (show w.heap.size ≤ _ from Nat.le_refl _) _
    exact B1.out.alloc B1.out.size _
  | some y =>
    obtain ⟨a, b, c, d, e, f⟩ := y
    simp only [Option.getD_some, Option.isSome_some, zval] at k1
    go_enter Tryz.func87, Tryz.ntmps87
    go_wp2
    refine bodyPost_ret (v := .tuple #[zval ⟨a, b, c, d, e, f⟩, .int .i64 0]) (by simp [results, Tryz.results87, go_sem, zval, r0, r1, r2, r3, r4, r5, FC]) rfl ⟨rfl, ?_⟩
    iterate 6 refine Below.setCell ?_ (show w.heap.size ≤ _ from Nat.le_refl _) _
    exact B1.out.alloc B1.out.size _
end Ms
end Go.Proofs.YtkfmkchonlajpaaGreat

namespace Go.Proofs.YtkfmkchonlajpaaGreat
open Go.RowKit

namespace Ms
theorem own_floor2 {w : World} {B B' : Nat} {e : TypeId} {k n : Nat} {v : Value} {xs : List Value} (h : w.ownsRow B e k v n xs) (hb : B' ≤ B) : w.ownsRow B' e k v n xs := by
  refine ⟨h.1, ?_⟩
  rcases h.2 with h0 | ⟨g, cap, cur, e1, h1, h2⟩
  · exact .inl h0
  · exact .inr ⟨g, cap, cur, e1, Nat.le_trans hb h1, h2⟩
/-- The document's master: at block g, its zones' slice vz, its products' vp. -/
def RM (w : World) (B g : Nat) (vz vp : Value) (Z : List Zn) (P : List Pd) : Prop :=
  B ≤ g ∧ Lies w g 73 #[vz, vp] ∧ w.ownsRow B 61 6 vz Z.length (Z.flatMap zcells) ∧ w.ownsRow B 64 3 vp P.length (P.flatMap pcells)
theorem RM.turn {w w' : World} {B g : Nat} {vz vp : Value} {Z : List Zn} {P : List Pd} {T : Nat → Prop} (h : RM w B g vz vp Z P) (ht : Turn T w w') (hg : ¬ T g) (hz : ∀ k, vz.ownBlock = some k → ¬ T k) (hp : ∀ k, vp.ownBlock = some k → ¬ T k) : RM w' B g vz vp Z P :=
  ⟨h.1, h.2.1.turn ht hg, own_turn h.2.2.1 ht hz, own_turn h.2.2.2 ht hp⟩
theorem RM.keep {w w' : World} {B g : Nat} {vz vp : Value} {Z : List Zn} {P : List Pd} (h : RM w B g vz vp Z P) (hb : Below w.heap.size w w') : RM w' B g vz vp Z P :=
  h.turn (T := fun _ => False) (Turn.of_below hb) (fun hh => hh) (fun _ _ hh => hh) (fun _ _ hh => hh)
end Ms
end Go.Proofs.YtkfmkchonlajpaaGreat

namespace Go.Proofs.YtkfmkchonlajpaaGreat
open Go.RowKit

namespace Ms
set_option maxRecDepth 100000 in
set_option maxHeartbeats 8000000 in
theorem rrowZ_any (B g : Nat) (vz vp : Value) (Z : List Zn) (P : List Pd) (m : Int) (w : World) (h : RM w B g vz vp Z P) (hL : Z.length ≤ 1000000) :
    Calls Tryz.prog 62 #[.pointer (some ⟨g, 0, none⟩), .int .i64 m] w fun e w' =>
      e = .returned (.tuple #[zval (getK (findK Zn.id m Z) zn0).1, .int .i64 ((getK (findK Zn.id m Z) zn0).2 : Nat)]) ∧ Below w.heap.size w w' := by
  have B1 := Lib.hid (alloc_below w (.cells #[.int .i64 0, .int .i64 0, .int .i64 0, .int .i64 0, .bool false, .int .i64 0] 61))
  have X1 := Lib.hid (Lies.new w 61 #[.int .i64 0, .int .i64 0, .int .i64 0, .int .i64 0, .bool false, .int .i64 0])
  have H1 := h.keep B1.out
  obtain ⟨w1, hw1⟩ : ∃ w1, w.alloc (.cells #[.int .i64 0, .int .i64 0, .int .i64 0, .int .i64 0, .bool false, .int .i64 0] 61) = w1 := ⟨_, rfl⟩
  rw [hw1] at B1 X1 H1
  obtain ⟨q0, d0, hv⟩ := own_slice h.2.2.1
  subst hv
  clear h
  obtain ⟨n, hn⟩ : ∃ n, Z.length = n := ⟨_, rfl⟩
  rw [hn] at hL H1
  have HN := Lib.hid hn
  have H := Lib.hid H1
  have m0 : w1.cell? ⟨g, 0, none⟩ = some (.slice q0 n d0) := H1.2.1.cell 0
  have hL' : (n : Int) ≤ 1000000 := by omega
  have FK := Lib.hid (fun k y (hh : ∀ y ∈ Z.take k, Zn.id y ≠ m) (hy : Z[k]? = some y) (he : y.id = m) => find_at hh hy he)
  have FN := Lib.hid (fun k y (hh : ∀ y ∈ Z.take k, Zn.id y ≠ m) (hy : Z[k]? = some y) (he : y.id ≠ m) => not_next hh hy he)
  have FE := Lib.hid (fun (hh : ∀ y ∈ Z.take n, Zn.id y ≠ m) => (find_none.2 (by rw [List.take_of_length_le (Nat.le_of_eq hn)] at hh; exact hh) : findK Zn.id m Z = none))
  clear hn H1
  have r0 : w1.cell? ⟨w.heap.size, 0, none⟩ = some (.int .i64 0) := X1.out.cell 0
  have g0 := X1.out.frozen 0
  have r1 : w1.cell? ⟨w.heap.size, 1, none⟩ = some (.int .i64 0) := X1.out.cell 1
  have g1 := X1.out.frozen 1
  have r2 : w1.cell? ⟨w.heap.size, 2, none⟩ = some (.int .i64 0) := X1.out.cell 2
  have g2 := X1.out.frozen 2
  have r3 : w1.cell? ⟨w.heap.size, 3, none⟩ = some (.int .i64 0) := X1.out.cell 3
  have g3 := X1.out.frozen 3
  have r4 : w1.cell? ⟨w.heap.size, 4, none⟩ = some (.bool false) := X1.out.cell 4
  have g4 := X1.out.frozen 4
  have r5 : w1.cell? ⟨w.heap.size, 5, none⟩ = some (.int .i64 0) := X1.out.cell 5
  have g5 := X1.out.frozen 5
  go_enter Tryz.func62, Tryz.ntmps62
  go_wp2
  clear hw1
  go_loop [6] (fun i => ∃ k : Nat, k ≤ n ∧ i = .int .i64 k ∧ Hid (∀ y ∈ Z.take k, Zn.id y ≠ m)) (fun i => n - (RowKit.intOf i).toNat)
  case atStart => exact ⟨0, Nat.zero_le _, rfl, Lib.hid (by simp)⟩
  case round =>
    obtain ⟨k, hk, rfl, HH⟩ := hrel
    by_cases hlt : k < n
    · have hk3 : (k : Int) < (n : Int) := by omega
      obtain ⟨y, hy⟩ : ∃ y, Z[k]? = some y := ⟨_, List.getElem?_eq_getElem (by rw [HN.out]; exact hlt)⟩
      obtain ⟨blk, cc, e, hb1, hb2, hncc⟩ := own_some H.out.2.2.1 (by rw [HN.out]; omega)
      rw [HN.out] at e
      have FE1 := Lib.hid (fun i (hi : i < 6) => by
        have o2 := H.out.2.2.1
        rw [e, HN.out] at o2
        exact row_cell zcells_len o2 HN.out hy hi)
      cases e
      have HK := Lib.hid (fun he => FK.out k y HH.out hy he)
      have HX := Lib.hid (fun he => FN.out k y HH.out hy he)
      clear hy hb1 hb2
      obtain ⟨ka2, kb2, kc2, kd2, ke2, kf2⟩ := y
      simp only at HK HX
      have e0 : w1.cell? ⟨blk, k * 6, none⟩ = some (.int .i64 ka2) := FE1.out 0 (by decide)
      have e1 : w1.cell? ⟨blk, k * 6 + 1, none⟩ = some (.int .i64 kb2) := FE1.out 1 (by decide)
      have e2 : w1.cell? ⟨blk, k * 6 + 2, none⟩ = some (.int .i64 kc2) := FE1.out 2 (by decide)
      have e3 : w1.cell? ⟨blk, k * 6 + 3, none⟩ = some (.int .i64 kd2) := FE1.out 3 (by decide)
      have e4 : w1.cell? ⟨blk, k * 6 + 4, none⟩ = some (.bool ke2) := FE1.out 4 (by decide)
      have e5 : w1.cell? ⟨blk, k * 6 + 5, none⟩ = some (.int .i64 kf2) := FE1.out 5 (by decide)
      by_cases ha : ka2 = m
      · subst ha
        have HE := Lib.hid (HK.out rfl)
        clear HK HX
        go_wp2
        refine bodyPost_ret (v := .tuple #[zval ⟨ka2, kb2, kc2, kd2, ke2, kf2⟩, .int .i64 0]) (by simp [results, Tryz.results62, go_sem, zval, r0, r1, r2, r3, r4, r5]) rfl ⟨by rw [HE.out]; rfl, ?_⟩
        iterate 6 refine Below.setCell ?_ (show w.heap.size ≤ _ from Nat.le_refl _) _
        exact B1.out
      · have ha2 : (ka2 == m) = false := by simp [ha]
        have HH2 := Lib.hid (HX.out ha)
        clear HK HX ha
        go_wp2
        go_round
        case rel => exact ⟨k + 1, by omega, by go_num, HH2⟩
        case measure => simp [RowKit.intOf]; omega
    · obtain rfl : k = n := by omega
      have HE := Lib.hid (FE.out HH.out)
      go_wp2
      refine bodyPost_ret (v := .tuple #[zval zn0, .int .i64 5]) (by simp [results, Tryz.results62, go_sem, zval, zn0, r0, r1, r2, r3, r4, r5]) rfl ⟨by rw [HE.out]; rfl, ?_⟩
      iterate 6 refine Below.setCell ?_ (show w.heap.size ≤ _ from Nat.le_refl _) _
      exact B1.out
theorem takesZ {l l2 : List Zn} {k : Nat} {x : Zn} (h : l.take k = l2.take k) (hx : l[k]? = some x) (hy : l2[k]? = some x) : l.take (k + 1) = l2.take (k + 1) := by
  rw [List.take_add_one, List.take_add_one, h, hx, hy]
theorem notsZ {l l2 : List Zn} {k : Nat} {x y : Zn} (hx : l[k]? = some x) (hy : l2[k]? = some y) (h : x ≠ y) : decide (l = l2) = false := by
  rw [decide_eq_false_iff_not]
  rintro rfl
  rw [hx] at hy
  exact h (Option.some.inj hy)
end Ms
end Go.Proofs.YtkfmkchonlajpaaGreat
