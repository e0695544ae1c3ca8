/- Walks over package stock: all lots, in order (slices.Sorted of a map's keys). No condition but those written. Walks over package stock: no stock; its contracts in one. No condition but those written. Walks over package master's table of Zones: one more. No condition but those written. Walks over package master's table of Zones: all, in order. No condition but those written. Package master: a master in memory. No condition but those written. Walks over package master: what it does with Zones. No condition but those written. Walks over package master's table of Products: one more. No condition but those written. Walks over package master's table of Products: all, in order. No condition but those written. Walks over package master: what it does with Products. No condition but those written. -/
import Derived.Test.YtkfmkchonlajpaaQ11
import Derived.Test.YtkfmkchonlajpaaQ04
import Derived.WalkSpells
import Derived.StillTailTactics
import Derived.Test.YtkfmkchonlajpaaQ03
import Derived.Test.YtkfmkchonlajpaaQ05
namespace Go.Proofs.Ytkfmkchonlajpaa
open Go.RowKit Go.Maps Go.Sort

namespace Lo
theorem keysL_any (mo : Option Nat) (w : World) : Calls Try.prog 29 #[.map mo] w fun e w' =>
    e = .returned (.func (.func 52) #[] #[.pointer (some ⟨w.heap.size, 0, none⟩)]) ∧ w' = w.alloc (.cells #[.map mo] 58) :=
  callsIn_wide.1 (AnyZI.keys_in Try.keysA Fence.wide 5 trivial rfl mo w)
set_option maxHeartbeats 1000000 in
theorem sortedL_any {w : World} {B : Nat} {mo : Option Nat} {S : List Lr} (ht : Ms.Tab Lf Lr.id w B mo S) (hS : Ms.Ord Lr.id S) (hL : S.length ≤ 1000) :
    Calls Try.prog 28 #[.func (.func 52) #[] #[.pointer (some ⟨w.heap.size, 0, none⟩)]] (w.alloc (.cells #[.map mo] 58)) (Ms.NumsEnd Lr.id S (w.alloc (.cells #[.map mo] 58))) := by
  refine (callsIn_wide (n := 5)).1 ?_
  rcases ht with ⟨rfl, rfl⟩ | ⟨b, D, rfl, _, hown, hM⟩
  · have hseq : SeqGives Fence.wide 2 Try.prog 52 #[.pointer (some ⟨w.heap.size, 0, none⟩)] encZ (fun ss : List Int => ss = []) 0 (w.alloc (.cells #[.map none] 58)) :=
      AnyZI.keys_gives_nil (ρ := Try.keysA_ren) { Try.keysA with } Fence.wide _ trivial rfl w.heap.size _ (by simp) (by simp)
    have cS := AnyZI.sorted_in Try.sortedA Fence.wide 5 trivial trivial trivial trivial rfl (by omega) (Ms.sorts _) (enters_of Try.func51 (by kernel_rfl) rfl) 52 #[.pointer (some ⟨w.heap.size, 0, none⟩)] trivial (enters_of Try.func52 (by kernel_rfl) rfl) _ 0 (Nat.zero_le _) (by omega) _ hseq
    refine cS.mono ?_
    rintro e w' ⟨v, ss, rfl, rfl, hrow, hnil, hb⟩
    rw [List.mergeSort_nil] at hrow
    exact ⟨v, rfl, hrow, hb⟩
  · have hbl := hown.lt
    have hseq : SeqGives Fence.wide 2 Try.prog 52 #[.pointer (some ⟨w.heap.size, 0, none⟩)] encZ (fun ss => ss.Perm (intKeys D)) (Maps.size D) (w.alloc (.cells #[.map (some b)] 58)) :=
      AnyZI.keys_gives (ρ := Try.keysA_ren) { Try.keysA with } Fence.wide _ trivial rfl (by omega) w.heap.size b S.length D _ (by simp) (by simp) (Ms.own_like hown (Below.heap_alloc _ _ b hbl))
    have cS := AnyZI.sorted_in Try.sortedA Fence.wide 5 trivial trivial trivial trivial rfl (by omega) (Ms.sorts _) (enters_of Try.func51 (by kernel_rfl) rfl) 52 #[.pointer (some ⟨w.heap.size, 0, none⟩)] trivial (enters_of Try.func52 (by kernel_rfl) rfl) _ _ (by rw [hM.size]; unfold maxLen; omega) (by rw [hM.size]; omega) _ hseq
    refine cS.mono ?_
    rintro e w' ⟨v, ss, rfl, hp, hrow, hnil, hb⟩
    obtain ⟨h1, h2⟩ := Ms.mp_keys hown hM hS hp
    rw [h1, h2, Ms.kflat] at hrow
    exact ⟨v, rfl, hrow, hb⟩
theorem infoS : (Try.prog.info? 32).map (fun i => (i.zero, i.size, i.bytes)) = some (some (.agg #[.int .i64 0, .int .i64 0, .int .i64 0, .int .i64 0, .int .i64 0, .int .i64 0, .int .i64 0, .slice none 0 0]), 8, 80) := by kernel_rfl
theorem plots_nil (w : World) : Calls Try.prog 10 #[.pointer none] w fun e w' => (∃ v : Value, e = .returned v ∧ ∃ q c, v = .slice q 0 c) ∧ Below w.heap.size w w' := by
  go_enter Try.func10, Try.ntmps10
  go_wp2
  go_ret
  exact ⟨⟨_, rfl, _, _, rfl⟩, Below.refl _ _⟩
theorem ord_raws {L : List Lv} {g : Int} (h : Good (lts L, g)) : Ms.Ord Lr.id (L.map raw) := by
  have := h.ids
  simp only [lts] at this
  have h2 : L.Pairwise (fun a b => a.x.id < b.x.id) := (List.pairwise_map.1 this).imp (fun h => h)
  exact List.pairwise_map.2 h2
theorem find_raw {L : List Lv} {g : Int} (h : Good (lts L, g)) {y : Lv} (hy : y ∈ L) : Ms.findK Lr.id y.x.id (L.map raw) = some (raw y) := Ms.find_mem (ord_raws h) (List.mem_map.2 ⟨y, hy, rfl⟩)
/-- A list, so far: its lots' stays lie at places of their own. -/
def Part (W : World) (B : Nat) (v : Value) (l : List Lt) (L : List Lv) : Prop := lts L = l ∧ ∀ y ∈ L, St W y ∧ ∀ j, Bk y j → B ≤ j ∧ v.ownBlock ≠ some j
theorem part_step {w0 wr w3 w5 : World} {B : Nat} {v v5 : Value} {l : List Lt} {L : List Lv} {y : Lv} {ob : Obj} {m : Nat} {xs : List Value} (hP : Part wr B v l L) (hB : B ≤ wr.heap.size) (hr : wr.ownsRow w0.heap.size 32 8 v m xs) (hb : Below wr.heap.size wr w3) (hs : St w3 y) (hk : ∀ j, Bk y j → wr.heap.size ≤ j)
    (hg : (w3.alloc ob).grownBy w5 v.ownBlock) (hat : v5.ownBlock = v.ownBlock ∨ v5.ownBlock = some (w3.alloc ob).heap.size) : Part w5 B v5 (l ++ [y.x]) (L ++ [y]) := by
  have hT : Turn (fun j => v.ownBlock = some j) w3 w5 := ((Turn.refl (fun j => v.ownBlock = some j) w3).alloc ob).grown hg (fun j hj => .inl hj)
  have hs3 := hb.size
  have hsz : (w3.alloc ob).heap.size = w3.heap.size + 1 := by simp
  refine ⟨by rw [lts, List.map_append, ← hP.1]; rfl, fun z hz => ?_⟩
  rcases List.mem_append.1 hz with hz | hz
  · obtain ⟨h1, h2⟩ := hP.2 z hz
    have h3 := h1.keep hb
    refine ⟨h3.turn hT (fun j hj e => (h2 j hj).2 e), fun j hj => ⟨(h2 j hj).1, fun e => ?_⟩⟩
    rcases hat with hat | hat
    · exact (h2 j hj).2 (hat ▸ e)
    · rw [hat] at e
      have := Option.some.inj e
      have := h3.lt hj
      omega
  · rw [List.mem_singleton.1 hz]
    refine ⟨hs.turn hT (fun j hj e => ?_), fun j hj => ⟨Nat.le_trans hB (hk j hj), fun e => ?_⟩⟩
    · have := hk j hj
      have := (own_lt hr e).2
      omega
    · have h1 := hk j hj
      rcases hat with hat | hat
      · have := (own_lt hr (hat ▸ e)).2
        omega
      · rw [hat] at e
        have := Option.some.inj e
        have := hs.lt hj
        omega
set_option maxRecDepth 100000 in
set_option maxHeartbeats 8000000 in
/-- All, in order. -/
theorem plots_any (B h : Nat) (mo : Option Nat) (given : Int) (L : List Lv) (w : World) (hp : PL w B h mo given L) (hG : Good (lts L, given)) :
    Calls Try.prog 10 #[.pointer (some ⟨h, 0, none⟩)] w (LotsEnd (lts L) w) := by
  obtain ⟨i0, hi, hz0, hz1, hz2⟩ := info_parts infoS
  have hL := lots_len hG
  have HG := Lib.hid hG
  have HP := Lib.hid hp
  have C1 := Lib.hid (keysL_any mo w)
  have C2 := Lib.hid (sortedL_any hp.tab (ord_raws hG) (by rw [List.length_map]; omega))
  have l0 : w.cell? ⟨h, 0, none⟩ = some (.map mo) := hp.blk.cell 0
  have HW : Hid (w.heap.size ≤ (w.alloc (.cells #[.map mo] 58)).heap.size) := Lib.hid (by simp)
  have BW : Hid (Below w.heap.size w (w.alloc (.cells #[.map mo] 58))) := Lib.hid (alloc_below w _)
  clear hp hG
  go_enter Try.func10, Try.ntmps10
  go_wp2_with fail
  refine C1.out.mono ?_
  rintro e w1 ⟨rfl, hw1⟩
  rw [← hw1] at C2 HW BW
  clear hw1 l0
  go_wp2_with fail
  refine C2.out.mono ?_
  intro e w2 he
  obtain ⟨v, rfl, ho, hb2⟩ := he
  obtain ⟨q, c, rfl⟩ := own_slice ho
  have KO := Lib.hid ho
  have B2 := Lib.hid (BW.out.trans (hb2.mono HW.out))
  have H2 : Hid (w.heap.size ≤ w2.heap.size) := Lib.hid (Nat.le_trans HW.out hb2.size)
  clear ho hb2 C1 C2 BW
  have hlen : (L.map raw).length = L.length := List.length_map ..
  obtain ⟨N, hN⟩ : ∃ N, L.length = N := ⟨_, rfl⟩
  rw [hlen, hN] at KO
  rw [hN] at hL hlen
  rw [hlen]
  have HN := Lib.hid hN
  have HN2 := Lib.hid hlen
  clear hN hlen
  have hL' : (N : Int) ≤ 256 := by omega
  go_wp2_with fail
  go_loopw [3, 15] (fun v i wr => ∃ (k : Nat) (Lk : List Lv), k ≤ N ∧ i = .int .i64 k ∧ (∃ q d, v = .slice q k d) ∧ Hid (Part wr w2.heap.size v ((lts L).take k) Lk) ∧ Hid (Lk.length = k) ∧ Hid (wr.ownsRow w2.heap.size 32 8 v k (Lk.flatMap lcells)) ∧ Hid (Below w2.heap.size w2 wr)) (fun _ i _ => N - (RowKit.intOf i).toNat)
  case atStart => exact ⟨0, [], Nat.zero_le _, rfl, ⟨none, 0, rfl⟩, Lib.hid ⟨rfl, fun y hy => by simp at hy⟩, Lib.hid rfl, Lib.hid (World.ownsRow_nil _ _ _ _), Lib.hid (Below.refl _ _)⟩
  case round =>
    obtain ⟨k, Lk, hk, rfl, ⟨q2, d2, rfl⟩, PA, LL, RO, BR⟩ := hrel
    have BA := Lib.hid (B2.out.trans (BR.out.mono H2.out))
    by_cases hlt : k < N
    · have hk3 : (k : Int) < (N : Int) := by omega
      obtain ⟨y, hy⟩ : ∃ y, L[k]? = some y := ⟨_, List.getElem?_eq_getElem (by rw [HN.out]; exact hlt)⟩
      obtain ⟨b, c2, e, hb1, hb2, _⟩ := own_some KO.out (by omega)
      cases e
      have hmem := List.mem_of_getElem? hy
      have hyr : (L.map raw)[k]? = some (raw y) := by rw [List.getElem?_map, hy]; rfl
      have d0 : w2.cell? ⟨b, k, none⟩ = some (.int .i64 y.x.id) := by
        have := row_cell (Ms.kcells_len Lr.id) KO.out HN2.out hyr (i := 0) (by decide)
        simpa [Ms.kcells, raw] using this
      have e0 : wr.cell? ⟨b, k, none⟩ = some (.int .i64 y.x.id) := (BR.out.cell (p := ⟨b, k, none⟩) hb2).trans d0
      have l0 : wr.cell? ⟨h, 0, none⟩ = some (.map mo) := (HP.out.blk.below BA.out HP.out.blk.lt).cell 0
      have H0 := lot_here HP.out HG.out hy
      have kk := tlook1L HP.out.tab H0.2.2.2.1 wr BA.out
      rw [find_raw HG.out hmem] at kk
      have CA := Lib.hid (papart_any y wr (H0.1.keep BA.out) H0.2.1)
      have TK : Hid ((lts L).take (k + 1) = (lts L).take k ++ [y.x]) := Lib.hid (by
        have h1 : (lts L)[k]? = some y.x := by rw [lts, List.getElem?_map, hy]; rfl
        rw [List.take_add_one, h1]
        rfl)
      have H2s := Lib.hid BR.out.size
      clear hy hmem d0 hb1 hb2 H0 hyr
      obtain ⟨⟨i1, i2, i3, i4, i5, i6, i7, S⟩, p, n, c⟩ := y
      simp only [Option.getD_some, raw, rval] at kk
      simp only at e0 TK
      simp only [lval] at CA
      go_wp2_with fail
      refine CA.out.mono ?_
      intro e w3 he
      obtain ⟨⟨x2, p2, n2, c3⟩, hyx, rfl, hs, hk2, hb⟩ := he
      simp only at hyx
      subst hyx
      have BR3 := Lib.hid (BR.out.trans (hb.mono BR.out.size))
      have RO3 := Lib.hid (own_turn RO.out (Turn.of_below (S := fun _ => False) hb) (fun _ _ hf => hf))
      have PS := Lib.hid (fun ob w5 v5 hg hat => part_step (ob := ob) (w5 := w5) (v5 := v5) (w0 := w2) PA.out H2s.out RO.out hb hs hk2 hg hat)
      clear e0 l0 kk CA hs hk2 hb
      simp only [lval]
      have hsz := BR3.out.size
      go_wp2_with (at_builtin; refine wpList_append_own_at _ rfl _ _ 22 rfl w2.heap.size 32 i0 _ 8 80 Try.underlying22 hi hz0 hz1 hz2 rfl (by decide) _ _ _ rfl (RO3.out.alloc _) ⟨w3.heap.size, 0, none⟩ 1 1 [.int .i64 i1, .int .i64 i2, .int .i64 i3, .int .i64 i4, .int .i64 i5, .int .i64 i6, .int .i64 i7, .slice p2 n2 c3] rfl rfl (World.news_of_block (cs := #[.int .i64 i1, .int .i64 i2, .int .i64 i3, .int .i64 i4, .int .i64 i5, .int .i64 i6, .int .i64 i7, .slice p2 n2 c3]) (t := 32) (fr := (0, 0)) (heap_alloc_new w3 _)) (by simp [Value.oneCell']) (by unfold maxLen; omega) (by omega) (by simp; omega) ?_; intro v5 w5 hown5 hg5 _ hat5; have B5 := Lib.hid ((BR3.out.alloc hsz (.cells #[.int .i64 i1, .int .i64 i2, .int .i64 i3, .int .i64 i4, .int .i64 i5, .int .i64 i6, .int .i64 i7, .slice p2 n2 c3] 32)).grown hg5 (Nat.le_trans hsz (size_alloc _ _)) (fun i hi => (own_lt RO3.out hi).1)))
      have P5 := Lib.hid (PS.out _ w5 v5 hg5 hat5)
      obtain ⟨q3, d3, rfl⟩ := own_slice hown5
      have O5 := Lib.hid hown5
      have LK := Lib.hid (show (Lk ++ [(⟨⟨i1, i2, i3, i4, i5, i6, i7, S⟩, p2, n2, c3⟩ : Lv)]).length = k + 1 by rw [List.length_append, LL.out]; rfl)
      clear hown5 hg5 hat5 PS
      go_roundw
      case rel => exact ⟨k + 1, _, by omega, by go_num, ⟨_, _, rfl⟩, Lib.hid (by
        rw [TK.out]
        exact P5.out), LK, Lib.hid (by
        rw [← flat_snoc]
        exact O5.out), B5⟩
      case measure => simp [RowKit.intOf]; omega
    · obtain rfl : k = N := by omega
      go_wp2
      go_ret
      have hlt : (lts L).length = k := by rw [lts, List.length_map]; exact HN.out
      have h1 := PA.out
      rw [List.take_of_length_le (by rw [hlt]; exact Nat.le_refl _)] at h1
      refine ⟨.slice q2 k d2, Lk, h1.1, rfl, ?_, fun y hy => ⟨(h1.2 y hy).1, fun j hj => Nat.le_trans H2.out ((h1.2 y hy).2 j hj).1⟩, BA.out⟩
      rw [LL.out]
      exact Ms.own_floor RO.out H2.out
end Lo
end Go.Proofs.Ytkfmkchonlajpaa

namespace Go.Proofs.Ytkfmkchonlajpaa
open Go.RowKit Go.Maps

namespace Lo
set_option maxRecDepth 100000
theorem nilS_recv (m : Value) (product zone units expiry now : Int) (w : World) : Calls Try.prog 18 #[.pointer none, m, .int .i64 product, .int .i64 zone, .int .i64 units, .int .i64 expiry, .int .i64 now] w fun e w' => e = .returned (.tuple #[.int .i64 0, .int .i64 1]) ∧ Below w.heap.size w w' := by
  go_enter Try.func18, Try.ntmps18
  go_wp2
  go_ret2
  exact ⟨rfl, Below.refl _ _⟩
theorem nilS_move (m : Value) (id zone now : Int) (w : World) : Calls Try.prog 20 #[.pointer none, m, .int .i64 id, .int .i64 zone, .int .i64 now] w fun e w' => e = .returned (.int .i64 1) ∧ Below w.heap.size w w' := by
  have C := Lib.hid (plot_nil id w)
  simp only [rval, lr0] at C
  go_enter Try.func20, Try.ntmps20
  go_wp2_with fail
  refine C.out.mono ?_
  rintro e w1 ⟨rfl, hb⟩
  have B2 := Lib.hid (hb.alloc hb.size (.cells #[.int .i64 0, .int .i64 0, .int .i64 0, .int .i64 0, .int .i64 0, .int .i64 0, .int .i64 0, .slice none 0 0] 32))
  clear hb
  go_wp2
  go_ret
  exact ⟨rfl, B2.out⟩
theorem nilS_split (id units : Int) (w : World) : Calls Try.prog 19 #[.pointer none, .int .i64 id, .int .i64 units] w fun e w' => e = .returned (.tuple #[.int .i64 0, .int .i64 1]) ∧ Below w.heap.size w w' := by
  have C := Lib.hid (plot_nil id w)
  simp only [rval, lr0] at C
  go_enter Try.func19, Try.ntmps19
  go_wp2_with fail
  refine C.out.mono ?_
  rintro e w1 ⟨rfl, hb⟩
  have B2 := Lib.hid (hb.alloc hb.size (.cells #[.int .i64 0, .int .i64 0, .int .i64 0, .int .i64 0, .int .i64 0, .int .i64 0, .int .i64 0, .slice none 0 0] 32))
  clear hb
  go_wp2
  go_ret2
  exact ⟨rfl, B2.out⟩
theorem nilS_merge (id frm : Int) (w : World) : Calls Try.prog 21 #[.pointer none, .int .i64 id, .int .i64 frm] w fun e w' => e = .returned (.int .i64 1) ∧ Below w.heap.size w w' := by
  have C := Lib.hid (plot_nil id w)
  simp only [rval, lr0] at C
  go_enter Try.func21, Try.ntmps21
  go_wp2_with fail
  refine C.out.mono ?_
  rintro e w1 ⟨rfl, hb⟩
  have B2 := Lib.hid (hb.alloc hb.size (.cells #[.int .i64 0, .int .i64 0, .int .i64 0, .int .i64 0, .int .i64 0, .int .i64 0, .int .i64 0, .slice none 0 0] 32))
  clear hb
  go_wp2
  go_ret
  exact ⟨rfl, B2.out⟩
set_option maxHeartbeats 4000000 in
theorem nilS_put (y : Lv) (w : World) : Calls Try.prog 6 #[.pointer none, lval y] w fun e w' => e = .returned (.int .i64 1) ∧ Below w.heap.size w w' := by
  obtain ⟨⟨i1, i2, i3, i4, i5, i6, i7, S⟩, p, n, c⟩ := y
  simp only [lval]
  have B1 := Lib.hid (alloc_below w (.cells #[.int .i64 i1, .int .i64 i2, .int .i64 i3, .int .i64 i4, .int .i64 i5, .int .i64 i6, .int .i64 i7, .slice p n c] 32))
  obtain ⟨w1, hw1⟩ : ∃ w1, w.alloc (.cells #[.int .i64 i1, .int .i64 i2, .int .i64 i3, .int .i64 i4, .int .i64 i5, .int .i64 i6, .int .i64 i7, .slice p n c] 32) = w1 := ⟨_, rfl⟩
  rw [hw1] at B1
  go_enter Try.func6, Try.ntmps6
  go_wp2_with fail
  clear hw1
  refine wp_region_quiet_below (by kernel_rfl) (by kernel_rfl) ?_
  repeat (go_big_quiet_step (fail))
  refine wpQuiet_nil ?_
  intro _ hw'
  obtain ⟨⟨dq, osq⟩, hw''⟩ := hw'
  subst hw''
  go_wp2
  go_ret
  exact ⟨rfl, B1.out.trans ((below_regrown w1 dq osq).mono B1.out.size)⟩
theorem nilS_give (id : Int) (w : World) : Calls Try.prog 13 #[.pointer none, .int .i64 id] w fun e w' => e = .returned (.int .i64 1) ∧ Below w.heap.size w w' := by
  go_enter Try.func13, Try.ntmps13
  go_wp2
  go_ret
  exact ⟨rfl, Below.refl _ _⟩
theorem nilS_given (w : World) : Calls Try.prog 8 #[.pointer none] w fun e w' => e = .returned (.int .i64 0) ∧ Below w.heap.size w w' := by
  go_enter Try.func8, Try.ntmps8
  go_wp2
  go_ret
  exact ⟨rfl, Below.refl _ _⟩
theorem nilS_lot (id : Int) (w : World) : Calls Try.prog 22 #[.pointer none, .int .i64 id] w (LotEnd lt0 1 w) :=
  plotO_any none id ⟨lt0, none, 0, 0⟩ 1 w (fun W _ => plot_nil id W) (fun W _ => ⟨rw_zero W none, Nat.le_refl _⟩) (by decide)
theorem fS_recv (M : Ms.Face) (B h Bm hm : Nat) (F Fm : Nat → Prop) (s : Stk) (Z : List Ms.Zn) (P : List Ms.Pd) (product zone units expiry now : Int) (w : World) (hp : PS w B h F s) (hM : M.DB w Bm hm Fm Z P) (hG : Good s) (hZ : Ms.GoodZ Z) (hz : I64 zone) (hpr : I64 product) :
    Calls Try.prog 18 #[.pointer (some ⟨h, 0, none⟩), .pointer (some ⟨hm, 0, none⟩), .int .i64 product, .int .i64 zone, .int .i64 units, .int .i64 expiry, .int .i64 now] w fun e w' =>
      e = .returned (.tuple #[.int .i64 (recvS Z P s product zone units expiry now).1.1, .int .i64 ((recvS Z P s product zone units expiry now).1.2 : Nat)]) ∧ Left PS w B h F (recvS Z P s product zone units expiry now).2 w' := by
  obtain ⟨l, g⟩ := s
  obtain ⟨mo, L, e, hP, hF⟩ := hp
  simp only at e hP
  subst e
  refine (precv_any B h Bm hm Fm M mo g L Z P product zone units expiry now w hP hM hG hZ hz hpr).mono ?_
  rintro e w' ⟨rfl, hl⟩
  exact ⟨rfl, hl.left hF⟩
theorem fS_move (M : Ms.Face) (B h Bm hm : Nat) (F Fm : Nat → Prop) (s : Stk) (Z : List Ms.Zn) (P : List Ms.Pd) (id zone now : Int) (w : World) (hp : PS w B h F s) (hM : M.DB w Bm hm Fm Z P) (hG : Good s) (hZ : Ms.GoodZ Z) (hi : I64 id) (hz : I64 zone) :
    Calls Try.prog 20 #[.pointer (some ⟨h, 0, none⟩), .pointer (some ⟨hm, 0, none⟩), .int .i64 id, .int .i64 zone, .int .i64 now] w fun e w' =>
      e = .returned (.int .i64 ((moveS Z s id zone now).1 : Nat)) ∧ Left PS w B h F (moveS Z s id zone now).2 w' := by
  obtain ⟨l, g⟩ := s
  obtain ⟨mo, L, e, hP, hF⟩ := hp
  simp only at e hP
  subst e
  refine (pmove_any B h Bm hm Fm M mo g L Z P id zone now w hP hM hG hi hz hZ).mono ?_
  rintro e w' ⟨rfl, hl⟩
  exact ⟨rfl, hl.left hF⟩
theorem fS_split (B h : Nat) (F : Nat → Prop) (s : Stk) (id units : Int) (w : World) (hp : PS w B h F s) (hG : Good s) (hi : I64 id) :
    Calls Try.prog 19 #[.pointer (some ⟨h, 0, none⟩), .int .i64 id, .int .i64 units] w fun e w' =>
      e = .returned (.tuple #[.int .i64 (splitS s id units).1.1, .int .i64 ((splitS s id units).1.2 : Nat)]) ∧ Left PS w B h F (splitS s id units).2 w' := by
  obtain ⟨l, g⟩ := s
  obtain ⟨mo, L, e, hP, hF⟩ := hp
  simp only at e hP
  subst e
  refine (psplit_any B h mo g L id units w hP hG hi).mono ?_
  rintro e w' ⟨rfl, hl⟩
  exact ⟨rfl, hl.left hF⟩
theorem fS_merge (B h : Nat) (F : Nat → Prop) (s : Stk) (into frm : Int) (w : World) (hp : PS w B h F s) (hG : Good s) (hi : I64 into) (hf : I64 frm) :
    Calls Try.prog 21 #[.pointer (some ⟨h, 0, none⟩), .int .i64 into, .int .i64 frm] w fun e w' =>
      e = .returned (.int .i64 ((mergeS s into frm).1 : Nat)) ∧ Left PS w B h F (mergeS s into frm).2 w' := by
  obtain ⟨l, g⟩ := s
  obtain ⟨mo, L, e, hP, hF⟩ := hp
  simp only at e hP
  subst e
  by_cases hno : at_ into (lts L) = none ∨ at_ frm (lts L) = none
  · refine (pmerge_none B h mo g L into frm w hP hi hf hno).mono ?_
    rintro e w' ⟨rfl, hl⟩
    exact ⟨rfl, hl.left hF⟩
  · cases ha : at_ into (lts L) with
    | none => exact absurd (.inl ha) hno
    | some i =>
      cases hb : at_ frm (lts L) with
      | none => exact absurd (.inr hb) hno
      | some k =>
        obtain ⟨y, hy, hyx⟩ := at_of ha
        obtain ⟨z, hz, hzx⟩ := at_of hb
        refine (pmerge_some B h mo g L into frm w hP hG hi hf i k y z ha hb hy hyx hz hzx).mono ?_
        rintro e w' ⟨rfl, hl⟩
        exact ⟨rfl, hl.left hF⟩
theorem fS_put (B h : Nat) (F : Nat → Prop) (s : Stk) (y : Lv) (w : World) (hp : PS w B h F s) (hG : Good s) (hy : St w y) (hn : y.n ≤ 100000) (hk : ∀ k, Bk y k → ¬ F k) :
    Calls Try.prog 6 #[.pointer (some ⟨h, 0, none⟩), lval y] w fun e w' =>
      e = .returned (.int .i64 ((putS s y.x).1 : Nat)) ∧ Left PS w B h F (putS s y.x).2 w' := by
  obtain ⟨l, g⟩ := s
  obtain ⟨mo, L, e, hP, hF⟩ := hp
  simp only at e hP
  subst e
  refine (pput_any B h mo g L y w hP hG hy (by omega) (fun k hb e => hk k hb ((hF k).2 (.inl e)))).mono ?_
  rintro e w' ⟨rfl, hl⟩
  exact ⟨rfl, hl.left hF⟩
theorem fS_give (B h : Nat) (F : Nat → Prop) (s : Stk) (id : Int) (w : World) (hp : PS w B h F s) :
    Calls Try.prog 13 #[.pointer (some ⟨h, 0, none⟩), .int .i64 id] w fun e w' =>
      e = .returned (.int .i64 ((giveS s id).1 : Nat)) ∧ Left PS w B h F (giveS s id).2 w' := by
  obtain ⟨l, g⟩ := s
  obtain ⟨mo, L, e, hP, hF⟩ := hp
  simp only at e hP
  subst e
  refine (pgive_any B h mo g L id w hP).mono ?_
  rintro e w' ⟨rfl, hl⟩
  exact ⟨rfl, hl.left hF⟩
theorem fS_given (B h : Nat) (F : Nat → Prop) (s : Stk) (w : World) (hp : PS w B h F s) : Calls Try.prog 8 #[.pointer (some ⟨h, 0, none⟩)] w fun e w' => e = .returned (.int .i64 s.2) ∧ Below w.heap.size w w' := by
  obtain ⟨mo, L, _, hP, _⟩ := hp
  exact pgiven_any h mo s.2 w hP.blk
theorem fS_load (B h : Nat) (F : Nat → Prop) (s : Stk) (zone : Int) (w : World) (hp : PS w B h F s) (hG : Good s) : Calls Try.prog 11 #[.pointer (some ⟨h, 0, none⟩), .int .i64 zone] w fun e w' => e = .returned (.int .i64 (loadL s.1 zone)) ∧ Below w.heap.size w w' := by
  obtain ⟨l, g⟩ := s
  obtain ⟨mo, L, e, hP, hF⟩ := hp
  simp only at e hP
  subst e
  exact pload_any B h mo g zone L w hP hG
theorem fS_lot (B h : Nat) (F : Nat → Prop) (s : Stk) (id : Int) (w : World) (hp : PS w B h F s) (hG : Good s) (hi : I64 id) : Calls Try.prog 22 #[.pointer (some ⟨h, 0, none⟩), .int .i64 id] w (LotEnd (lotS s id).1 (lotS s id).2 w) := by
  obtain ⟨l, g⟩ := s
  obtain ⟨mo, L, e, hP, hF⟩ := hp
  simp only at e hP
  subst e
  exact plotL_any B h mo g L id w hP hG hi
theorem fS_lots (B h : Nat) (F : Nat → Prop) (s : Stk) (w : World) (hp : PS w B h F s) (hG : Good s) : Calls Try.prog 10 #[.pointer (some ⟨h, 0, none⟩)] w (LotsEnd s.1 w) := by
  obtain ⟨l, g⟩ := s
  obtain ⟨mo, L, e, hP, hF⟩ := hp
  simp only at e hP
  subst e
  exact plots_any B h mo g L w hP hG
/-- Package stock: its contracts. -/
def lface (M : Ms.Face) : Face M where
  DB := PS
  foot := ps_foot
  turn := ps_turn
  new := pnewS_any
  recv := fun B h Bm hm F Fm s Z P product zone units expiry now w hp hM _ hG hZ _ _ _ hpr hz _ _ _ => fS_recv M B h Bm hm F Fm s Z P product zone units expiry now w hp hM hG hZ hz hpr
  move := fun B h Bm hm F Fm s Z P id zone now w hp hM _ hG hZ _ _ _ hi hz _ => fS_move M B h Bm hm F Fm s Z P id zone now w hp hM hG hZ hi hz
  split := fun B h F s id units w hp hG hi _ => fS_split B h F s id units w hp hG hi
  merge := fun B h F s into frm w hp hG hi hf => fS_merge B h F s into frm w hp hG hi hf
  put := fun B h F s y w hp hG hy hn hk => fS_put B h F s y w hp hG hy hn hk
  give := fun B h F s id w hp _ _ => fS_give B h F s id w hp
  given := fun B h F s w hp => fS_given B h F s w hp
  load := fun B h F s zone w hp hG _ => fS_load B h F s zone w hp hG
  lot := fun B h F s id w hp hG hi => fS_lot B h F s id w hp hG hi
  lots := fun B h F s w hp hG => fS_lots B h F s w hp hG
  nil_recv := nilS_recv
  nil_move := nilS_move
  nil_split := nilS_split
  nil_merge := nilS_merge
  nil_put := nilS_put
  nil_give := nilS_give
  nil_given := nilS_given
  nil_load := pload_nil
  nil_lot := nilS_lot
  nil_lots := plots_nil
end Lo
end Go.Proofs.Ytkfmkchonlajpaa

namespace Go.Proofs.Ytkfmkchonlajpaa
open Go.RowKit Go.Maps

namespace Ms
set_option maxRecDepth 100000 in
set_option maxHeartbeats 4000000 in
/-- One of its number is there. -/
theorem taddZ_twice (B h : Nat) (mz mp : Option Nat) (S : List Zn) (x : Zn) (w : World) (hl : Lies w h 79 #[.map mz, .map mp]) (ht : Tab Zf Zn.id w B mz S) (hm : In64 x.id) (hf : findK Zn.id x.id S ≠ none) :
    Calls Try.prog 33 #[.pointer (some ⟨h, 0, none⟩), .int .i64 x.id, zval x] w fun e w' => e = .returned (.int .i64 6) ∧ Below w.heap.size w w' := by
  have K := fun W hW => tlookZ ht hm W hW
  generalize findK Zn.id x.id S = o at *
  obtain ⟨a, b, c, d, e, f⟩ := x
  unfold zval at *
  simp only at K ⊢
  have B1 := Lib.hid (alloc_below w (.cells #[.int .i64 a, .int .i64 b, .int .i64 c, .int .i64 d, .bool e, .int .i64 f] 45))
  have L1 := Lib.hid (hl.alloc (.cells #[.int .i64 a, .int .i64 b, .int .i64 c, .int .i64 d, .bool e, .int .i64 f] 45))
  obtain ⟨w1, hw1⟩ : ∃ w1, w.alloc (.cells #[.int .i64 a, .int .i64 b, .int .i64 c, .int .i64 d, .bool e, .int .i64 f] 45) = w1 := ⟨_, rfl⟩
  rw [hw1] at B1 L1
  have k1 := K w1 B1.out
  have l0 : w1.cell? ⟨h, 0, none⟩ = some (.map mz) := L1.out.cell 0
  clear K ht hm hl
  cases o with
  | none => exact absurd rfl hf
  | some y =>
    obtain ⟨a2, b2, c2, d2, e2, f2⟩ := y
    simp only [Option.getD_some, Option.isSome_some] at k1
    clear hf
    go_enter Try.func33, Try.ntmps33
    go_wp2
    go_ret
    exact ⟨rfl, B1.out.alloc B1.out.size _⟩
set_option maxRecDepth 100000 in
set_option maxHeartbeats 4000000 in
/-- The first one of all. -/
theorem taddZ_first (h : Nat) (mz mp : Option Nat) (x : Zn) (w : World) (hl : Lies w h 79 #[.map mz, .map mp]) (hmo : mz = none) (hm : In64 x.id) :
    Calls Try.prog 33 #[.pointer (some ⟨h, 0, none⟩), .int .i64 x.id, zval x] w fun e w' => e = .returned (.int .i64 0) ∧
      ∃ q, w.heap.size ≤ q ∧ Lies w' h 79 #[.map (some q), .map mp] ∧ w'.ownsMap Try.prog 3 (rdF Zf) q 1 (DataW.put (.map []) (.int .i64 x.id) (zdat x)) ∧ Turn (fun k => k = h) w w' := by
  subst hmo
  have K := fun (W : World) hW => tlookZ (S := []) (B := 0) (w := w) (.inl ⟨rfl, rfl⟩) hm W hW
  simp only [findK, Option.getD_none, Option.isSome_none, zn0] at K
  have HKEY := Lib.hid (key_of hm)
  have HD := Lib.hid (rd_mk (Fm := Zf) x)
  obtain ⟨a, b, c, d, e, f⟩ := x
  simp only [Zf, zval, zdat] at K HKEY HD ⊢
  have B1 := Lib.hid (alloc_below w (.cells #[.int .i64 a, .int .i64 b, .int .i64 c, .int .i64 d, .bool e, .int .i64 f] 45))
  have L1 := Lib.hid (hl.alloc (.cells #[.int .i64 a, .int .i64 b, .int .i64 c, .int .i64 d, .bool e, .int .i64 f] 45))
  have X1 := Lib.hid (Lies.new w 45 #[.int .i64 a, .int .i64 b, .int .i64 c, .int .i64 d, .bool e, .int .i64 f])
  have HL := Lib.hid hl.lt
  obtain ⟨w1, hw1⟩ : ∃ w1, w.alloc (.cells #[.int .i64 a, .int .i64 b, .int .i64 c, .int .i64 d, .bool e, .int .i64 f] 45) = w1 := ⟨_, rfl⟩
  rw [hw1] at B1 L1 X1
  have B2 := Lib.hid (B1.out.alloc B1.out.size (.cells #[.int .i64 0, .int .i64 0, .int .i64 0, .int .i64 0, .bool false, .int .i64 0] 45))
  have L2 := Lib.hid (L1.out.alloc (.cells #[.int .i64 0, .int .i64 0, .int .i64 0, .int .i64 0, .bool false, .int .i64 0] 45))
  have X2 := Lib.hid (X1.out.alloc (.cells #[.int .i64 0, .int .i64 0, .int .i64 0, .int .i64 0, .bool false, .int .i64 0] 45))
  have k1 := K w1 B1.out
  have l1 : w1.cell? ⟨h, 0, none⟩ = some (.map none) := L1.out.cell 0
  have f1 : w1.frozen? ⟨h, 0, none⟩ = false := L1.out.frozen 0
  have FC : ∀ ob i, (w1.alloc ob).cell? ⟨h, i, none⟩ = w1.cell? ⟨h, i, none⟩ := fun ob i => (alloc_below w1 ob).cell (p := ⟨h, i, none⟩) L1.out.lt
  have FD : ∀ ob ob2 i, ((w1.alloc ob).alloc ob2).cell? ⟨h, i, none⟩ = w1.cell? ⟨h, i, none⟩ := fun ob ob2 i => ((alloc_below w1 ob).alloc (by simp) ob2).cell (p := ⟨h, i, none⟩) L1.out.lt
  have FG : ∀ ob ob2 i, ((w1.alloc ob).alloc ob2).frozen? ⟨h, i, none⟩ = w1.frozen? ⟨h, i, none⟩ := fun ob ob2 i => ((alloc_below w1 ob).alloc (by simp) ob2).frozen (p := ⟨h, i, none⟩) L1.out.lt
  have EN := fun W => run_eql_map_nil (P := Try.prog) W 72 3 45 none Try.underlying72
  have hmm := @run_makeMap Try.prog
  clear K hl hm
  go_enter Try.func33, Try.ntmps33
  go_wp2_with fail
  clear hw1 k1 l1 f1 FC FD FG EN hmm
  obtain ⟨w2, hw2⟩ : ∃ w2, w1.alloc (.cells #[.int .i64 0, .int .i64 0, .int .i64 0, .int .i64 0, .bool false, .int .i64 0] 45) = w2 := ⟨_, rfl⟩
  rw [hw2] at B2 L2 X2 ⊢
  have B3 := Lib.hid (B2.out.alloc B2.out.size (.map #[] 0))
  have L3 := Lib.hid (L2.out.alloc (.map #[] 0))
  have X3 := Lib.hid (X2.out.alloc (.map #[] 0))
  have O3 := Lib.hid (World.ownsMap_made (H := Unit) w2 Try.prog 3 (rdF Zf))
  have hh2 : Hid (h < w2.heap.size) := Lib.hid L2.out.lt
  have hx2 : Hid (w.heap.size < w2.heap.size) := Lib.hid X2.out.lt
  obtain ⟨w3, hw3⟩ : ∃ w3, w2.alloc (.map #[] 0) = w3 := ⟨_, rfl⟩
  rw [hw3] at B3 L3 X3 O3 ⊢
  have hs2 : w2.heap.size = w1.heap.size + 1 := by rw [← hw2]; simp
  rw [← hs2]
  clear hw2 hw3 hs2
  have hne : w2.heap.size ≠ h := by have := hh2.out; omega
  have L4 : Hid (Lies (w3.setCell ⟨h, 0, none⟩ (.map (some w2.heap.size))) h 79 #[.map (some w2.heap.size), .map mp]) := Lib.hid (by simpa using L3.out.set_ 0 (.map (some w2.heap.size)))
  have X4 : Hid (Lies (w3.setCell ⟨h, 0, none⟩ (.map (some w2.heap.size))) w.heap.size 45 #[.int .i64 a, .int .i64 b, .int .i64 c, .int .i64 d, .bool e, .int .i64 f]) :=
    Lib.hid (X3.out.like (Below.heap_setCell w3 ⟨h, 0, none⟩ _ _ (by have := HL.out; simp only; omega)))
  have O4 := Lib.hid (own_like O3.out (Below.heap_setCell w3 ⟨h, 0, none⟩ (.map (some w2.heap.size)) w2.heap.size hne))
  have T4 := Lib.hid ((Turn.of_below (S := fun k => k = h) B3.out).setCell (p := ⟨h, 0, none⟩) (.inl rfl) (.map (some w2.heap.size)))
  generalize w3.setCell ⟨h, 0, none⟩ (.map (some w2.heap.size)) = w4 at *
  have l0 : w4.cell? ⟨h, 0, none⟩ = some (.map (some w2.heap.size)) := L4.out.cell 0
  have x0 : w4.cell? ⟨w.heap.size, 0, none⟩ = some (.int .i64 a) := X4.out.cell 0
  have x1 : w4.cell? ⟨w.heap.size, 1, none⟩ = some (.int .i64 b) := X4.out.cell 1
  have x2 : w4.cell? ⟨w.heap.size, 2, none⟩ = some (.int .i64 c) := X4.out.cell 2
  have x3 : w4.cell? ⟨w.heap.size, 3, none⟩ = some (.int .i64 d) := X4.out.cell 3
  have x4 : w4.cell? ⟨w.heap.size, 4, none⟩ = some (.bool e) := X4.out.cell 4
  have x5 : w4.cell? ⟨w.heap.size, 5, none⟩ = some (.int .i64 f) := X4.out.cell 5
  generalize w2.heap.size = q at *
  have HN := Lib.hid hne
  clear hne
  go_still_tail 6, (by kernel_rfl)
  repeat still_step
  refine wpList_mapUpdate_own w4.drew rfl _ _ _ 72 rfl 3 45 lawI Try.underlying72 (rdF Zf) q 0 (.map []) rfl O4.out.drew (by decide) _ _ (.int .i64 a) rfl rfl HKEY.out _ [] HD.out ?_
  intro w5 hown5 hg5
  have T5 := Lib.hid (T4.out.drew.grown hg5 (fun k hk => .inr (by have := Option.some.inj hk; have := hx2.out; omega)))
  have L5 : Hid (Lies w5 h 79 #[.map (some q), .map mp]) := Lib.hid (L4.out.like (hg5.block h L4.out.lt (fun e => HN.out (Option.some.inj e).symm)))
  have O5 := Lib.hid hown5
  clear hown5 hg5 l0 x0 x1 x2 x3 x4 x5
  go_wp2
  go_ret
  exact ⟨rfl, q, by have := hx2.out; omega, L5.out, O5.out, T5.out⟩
set_option maxRecDepth 100000 in
set_option maxHeartbeats 4000000 in
/-- One more of them. -/
theorem taddZ_more (B h q n : Nat) (D : DataW Unit) (mz mp : Option Nat) (S : List Zn) (x : Zn) (w : World) (hl : Lies w h 79 #[.map mz, .map mp]) (hmo : mz = some q) (hown : w.ownsMap Try.prog 3 (rdF Zf) q n D) (hn : n < maxLen)
    (ht : Tab Zf Zn.id w B mz S) (hm : In64 x.id) (hf : findK Zn.id x.id S = none) :
    Calls Try.prog 33 #[.pointer (some ⟨h, 0, none⟩), .int .i64 x.id, zval x] w fun e w' => e = .returned (.int .i64 0) ∧
      w'.ownsMap Try.prog 3 (rdF Zf) q (n + 1) (D.put (.int .i64 x.id) (zdat x)) ∧ Turn (fun k => k = q) w w' := by
  have K := fun (W : World) hW => tlookZ ht hm W hW
  rw [hf] at K
  simp only [Option.getD_none, Option.isSome_none, zn0] at K
  subst hmo
  have HKEY := Lib.hid (key_of hm)
  have HD := Lib.hid (rd_mk (Fm := Zf) x)
  have HO := Lib.hid hown
  have HQ := Lib.hid hown.lt
  clear hown
  obtain ⟨a, b, c, d, e, f⟩ := x
  simp only [Zf, zval, zdat] at K HKEY HD HO ⊢
  have B1 := Lib.hid (alloc_below w (.cells #[.int .i64 a, .int .i64 b, .int .i64 c, .int .i64 d, .bool e, .int .i64 f] 45))
  have L1 := Lib.hid (hl.alloc (.cells #[.int .i64 a, .int .i64 b, .int .i64 c, .int .i64 d, .bool e, .int .i64 f] 45))
  have X1 := Lib.hid (Lies.new w 45 #[.int .i64 a, .int .i64 b, .int .i64 c, .int .i64 d, .bool e, .int .i64 f])
  obtain ⟨w1, hw1⟩ : ∃ w1, w.alloc (.cells #[.int .i64 a, .int .i64 b, .int .i64 c, .int .i64 d, .bool e, .int .i64 f] 45) = w1 := ⟨_, rfl⟩
  rw [hw1] at B1 L1 X1
  have B2 := Lib.hid (B1.out.alloc B1.out.size (.cells #[.int .i64 0, .int .i64 0, .int .i64 0, .int .i64 0, .bool false, .int .i64 0] 45))
  have L2 := Lib.hid (L1.out.alloc (.cells #[.int .i64 0, .int .i64 0, .int .i64 0, .int .i64 0, .bool false, .int .i64 0] 45))
  have X2 := Lib.hid (X1.out.alloc (.cells #[.int .i64 0, .int .i64 0, .int .i64 0, .int .i64 0, .bool false, .int .i64 0] 45))
  have FC : ∀ ob i, (w1.alloc ob).cell? ⟨h, i, none⟩ = w1.cell? ⟨h, i, none⟩ := fun ob i => (alloc_below w1 ob).cell (p := ⟨h, i, none⟩) L1.out.lt
  have k1 := K w1 B1.out
  have l1 : w1.cell? ⟨h, 0, none⟩ = some (.map (some q)) := L1.out.cell 0
  have EN := fun W => run_eql_map_nil (P := Try.prog) W 72 3 45 (some q) Try.underlying72
  clear K hl hm hf ht
  go_enter Try.func33, Try.ntmps33
  go_wp2_with fail
  clear hw1 k1 l1 EN FC
  obtain ⟨w2, hw2⟩ : ∃ w2, w1.alloc (.cells #[.int .i64 0, .int .i64 0, .int .i64 0, .int .i64 0, .bool false, .int .i64 0] 45) = w2 := ⟨_, rfl⟩
  rw [hw2] at B2 L2 X2 ⊢
  clear hw2
  have O2 := Lib.hid (own_like HO.out (show w2.drew.heap[q]? = w.heap[q]? from B2.out.block q HQ.out))
  have l2 : w2.cell? ⟨h, 0, none⟩ = some (.map (some q)) := L2.out.cell 0
  have x0 : w2.cell? ⟨w.heap.size, 0, none⟩ = some (.int .i64 a) := X2.out.cell 0
  have x1 : w2.cell? ⟨w.heap.size, 1, none⟩ = some (.int .i64 b) := X2.out.cell 1
  have x2 : w2.cell? ⟨w.heap.size, 2, none⟩ = some (.int .i64 c) := X2.out.cell 2
  have x3 : w2.cell? ⟨w.heap.size, 3, none⟩ = some (.int .i64 d) := X2.out.cell 3
  have x4 : w2.cell? ⟨w.heap.size, 4, none⟩ = some (.bool e) := X2.out.cell 4
  have x5 : w2.cell? ⟨w.heap.size, 5, none⟩ = some (.int .i64 f) := X2.out.cell 5
  go_still_tail 6, (by kernel_rfl)
  repeat still_step
  refine wpList_mapUpdate_own w2.drew rfl _ _ _ 72 rfl 3 45 lawI Try.underlying72 (rdF Zf) q n D rfl O2.out hn _ _ (.int .i64 a) rfl rfl HKEY.out _ [] HD.out ?_
  intro w5 hown5 hg5
  have T5 := Lib.hid (((Turn.of_below (S := fun k => k = q) B2.out).drew).grown hg5 (fun k hk => .inl (Option.some.inj hk).symm))
  have O5 := Lib.hid hown5
  clear hown5 hg5 l2 x0 x1 x2 x3 x4 x5
  go_wp2
  go_ret
  exact ⟨rfl, O5.out, T5.out⟩
end Ms
end Go.Proofs.Ytkfmkchonlajpaa

namespace Go.Proofs.Ytkfmkchonlajpaa
open Go.RowKit Go.Maps

namespace Ms
theorem tlook1Z {w : World} {B : Nat} {mo : Option Nat} {S : List Zn} (ht : Tab Zf Zn.id w B mo S) {m : Int} (hm : In64 m) (W : World) (hW : Below w.heap.size w W) :
    (Instr.lookup 72 (.map mo) (.int .i64 m) false).run Try.prog W = .ok (zval ((findK Zn.id m S).getD zn0)) W := by
  rcases ht with ⟨rfl, rfl⟩ | ⟨b, D, rfl, _, hown, hM⟩
  · rw [Maps.look_nil false lawI Try.underlying72 (zeroZ W) (key_of hm)]
    rfl
  · exact look1 Try.underlying72 zn0 zeroZ hown hM hm W (hW.block b hown.lt)
end Ms
end Go.Proofs.Ytkfmkchonlajpaa

namespace Go.Proofs.Ytkfmkchonlajpaa
open Go.RowKit Go.Maps

namespace Ms
/-- A master: a block that leads to nothing, or to a map, twice. -/
def PM (w : World) (B h : Nat) (F : Nat → Prop) (Z : List Zn) (P : List Pd) : Prop :=
  ∃ mz mp : Option Nat, Lies w h 79 #[.map mz, .map mp] ∧ B ≤ h ∧ (∀ k, F k ↔ k = h ∨ mz = some k ∨ mp = some k) ∧ Tab Zf Zn.id w B mz Z ∧ Tab Pf Pd.id w B mp P ∧ ∀ k, mz = some k → mp ≠ some k
theorem pm_foot {w : World} {B h : Nat} {F : Nat → Prop} {Z : List Zn} {P : List Pd} {k : Nat} (hp : PM w B h F Z P) (hk : F k) : B ≤ k ∧ k < w.heap.size := by
  obtain ⟨mz, mp, hl, hB, hF, hz, hpp, _⟩ := hp
  rcases (hF k).1 hk with rfl | e | e
  · exact ⟨hB, hl.lt⟩
  · exact tab_lt hz e
  · exact tab_lt hpp e
theorem pm_turn {w w' : World} {B h : Nat} {F T : Nat → Prop} {Z : List Zn} {P : List Pd} (hp : PM w B h F Z P) (ht : Turn T w w') (hs : ∀ k, F k → ¬ T k) : PM w' B h F Z P := by
  obtain ⟨mz, mp, hl, hB, hF, hz, hpp, hd⟩ := hp
  exact ⟨mz, mp, hl.turn ht (hs h ((hF h).2 (.inl rfl))), hB, hF, tab_turn hz ht (fun k hk => hs k ((hF k).2 (.inr (.inl hk)))), tab_turn hpp ht (fun k hk => hs k ((hF k).2 (.inr (.inr hk)))), hd⟩
theorem pm_keep {w w' : World} {B h : Nat} {F : Nat → Prop} {Z : List Zn} {P : List Pd} (hp : PM w B h F Z P) (hb : Below w.heap.size w w') : PM w' B h F Z P :=
  pm_turn hp (T := fun _ => False) (Turn.of_below hb) (fun _ _ hf => hf)
/-- What a call leaves that changes nothing. -/
theorem pm_same {w w' : World} {B h : Nat} {F : Nat → Prop} {Z : List Zn} {P : List Pd} (hp : PM w B h F Z P) (hb : Below w.heap.size w w') : ∃ F', PM w' B h F' Z P ∧ Turn F w w' ∧ ∀ k, F' k → F k ∨ w.heap.size ≤ k :=
  ⟨F, pm_keep hp hb, Turn.of_below hb, fun _ hk => .inl hk⟩
theorem pnew_any (w : World) : Calls Try.prog 15 #[] w fun e w' => ∃ h F, e = .returned (.pointer (some ⟨h, 0, none⟩)) ∧ PM w' w.heap.size h F [] [] ∧ Below w.heap.size w w' := by
  have X := Lib.hid (Lies.new w 79 #[.map none, .map none])
  go_enter Try.func15, Try.ntmps15
  go_wp2
  go_ret
  exact ⟨w.heap.size, fun k => k = w.heap.size, rfl, ⟨none, none, X.out, Nat.le_refl _, fun k => by simp, .inl ⟨rfl, rfl⟩, .inl ⟨rfl, rfl⟩, fun k h => by cases h⟩, alloc_below w _⟩
end Ms
end Go.Proofs.Ytkfmkchonlajpaa

namespace Go.Proofs.Ytkfmkchonlajpaa
open Go.RowKit Go.Maps

namespace Ms
/-- What the table holds then. -/
def TaddZ (w : World) (B h : Nat) (mz mp : Option Nat) (S : List Zn) (x : Zn) (e : Ending) (w' : World) : Prop :=
  e = .returned (.int .i64 ((addL Zn.id S x).1 : Nat)) ∧ ∃ mo, Lies w' h 79 #[.map mo, .map mp] ∧ Tab Zf Zn.id w' B mo (addL Zn.id S x).2 ∧ Turn (fun k => k = h ∨ mz = some k) w w' ∧ ∀ k, mo = some k → mz = some k ∨ w.heap.size ≤ k
theorem taddZ_any (B h : Nat) (mz mp : Option Nat) (S : List Zn) (x : Zn) (w : World) (hl : Lies w h 79 #[.map mz, .map mp]) (ht : Tab Zf Zn.id w B mz S) (hm : In64 x.id) (hB : B ≤ w.heap.size) (hL : S.length ≤ 1000) :
    Calls Try.prog 33 #[.pointer (some ⟨h, 0, none⟩), .int .i64 x.id, zval x] w (TaddZ w B h mz mp S x) := by
  cases hf : findK Zn.id x.id S with
  | some y =>
    refine (taddZ_twice B h mz mp S x w hl ht hm (by rw [hf]; simp)).mono fun e w' ⟨he, hb⟩ => ?_
    have E : addL Zn.id S x = (6, S) := by unfold addL; rw [hf]
    unfold TaddZ
    rw [E]
    have ht2 := Turn.of_below (S := fun _ => False) hb
    exact ⟨he, mz, hl.turn ht2 (fun hh => hh), tab_turn ht ht2 (fun _ _ hh => hh), Turn.of_below hb, fun k hk => .inl hk⟩
  | none =>
    have E : addL Zn.id S x = (0, ins Zn.id x S) := by unfold addL; rw [hf]
    unfold TaddZ
    rw [E]
    have ht0 := ht
    rcases ht with ⟨e0, rfl⟩ | ⟨b, D, e0, hBb, hown, hM⟩
    · refine (taddZ_first h mz mp x w hl e0 hm).mono fun e w' ⟨he, q, hq, hl2, ho, hT⟩ => ?_
      refine ⟨he, some q, hl2, .inr ⟨q, _, rfl, by omega, ho, mp_put mp_nil Maps.tidy_empty rfl⟩, hT.mono (fun i _ hi => .inl hi), fun k hk => .inr (by have := Option.some.inj hk; omega)⟩
    · have hne : b ≠ h := fun e => tab_ne ht0 hl (by rw [e0, e])
      refine (taddZ_more B h b S.length D mz mp S x w hl e0 hown (by unfold maxLen; omega) ht0 hm hf).mono fun e w' ⟨he, ho, hT⟩ => ?_
      have hM2 := mp_put hM (hown.tidy lawI) hf
      have ho2 := own_tight ho
      refine ⟨he, mz, hl.turn hT (fun e => hne e.symm), .inr ⟨b, _, e0, hBb, ?_, hM2⟩, hT.mono (fun i _ hi => .inr (by rw [e0, hi])), fun k hk => .inl hk⟩
      have h3 : Maps.size (D.put (.int .i64 x.id) (zdat x)) = (ins Zn.id x S).length := hM2.size
      rw [h3] at ho2
      exact ho2
theorem pm_addZ {w wi w' : World} {B h : Nat} {F : Nat → Prop} {mz mp : Option Nat} {Z : List Zn} {P : List Pd} {x : Zn} {e : Ending} (hB : B ≤ h) (hF : ∀ k, F k ↔ k = h ∨ mz = some k ∨ mp = some k) (hl : Lies wi h 79 #[.map mz, .map mp]) (ho : Tab Pf Pd.id wi B mp P) (hd : ∀ k, mz = some k → mp ≠ some k)
    (hT : Turn F w wi) (hn : w.heap.size ≤ wi.heap.size) (hlo : ∀ k, mp = some k → k < wi.heap.size) (h2 : TaddZ wi B h mz mp Z x e w') :
    e = .returned (.int .i64 ((addL Zn.id Z x).1 : Nat)) ∧ ∃ F', PM w' B h F' (addL Zn.id Z x).2 P ∧ Turn F w w' ∧ ∀ k, F' k → F k ∨ w.heap.size ≤ k := by
  obtain ⟨he, mo, hl2, ht2, hT2, hk2⟩ := h2
  refine ⟨he, fun k => k = h ∨ mo = some k ∨ mp = some k, ⟨mo, mp, hl2, hB, fun k => Iff.rfl, ht2, tab_turn ho hT2 (fun k hk hh => hh.elim (fun e => tab_ne ho hl (by rw [hk, e])) (fun e => hd k e hk)), ?_⟩, hT.trans hT2 (fun i hi => .inl ((hF i).2 ?_)), fun k hk => ?_⟩
  · intro k hk hk'
    rcases hk2 k hk with e | e
    · exact hd k e hk'
    · have := hlo k hk'
      omega
  · rcases hi with rfl | hi
    · exact .inl rfl
    · exact .inr (.inl hi)
  · rcases hk with rfl | hk | hk
    · exact .inl ((hF _).2 (.inl rfl))
    · exact (hk2 k hk).elim (fun e => .inl ((hF k).2 (.inr (.inl e)))) (fun e => .inr (Nat.le_trans hn e))
    · exact .inl ((hF k).2 (.inr (.inr hk)))
set_option maxRecDepth 100000 in
set_option maxHeartbeats 4000000 in
theorem paddZ_any (B h : Nat) (F : Nat → Prop) (Z : List Zn) (P : List Pd) (x : Zn) (w : World) (hp : PM w B h F Z P) (hL : Z.length ≤ 1000) :
    Calls Try.prog 16 #[.pointer (some ⟨h, 0, none⟩), zval x] w fun e w' =>
      e = .returned (.int .i64 ((addZ Z x).1 : Nat)) ∧ ∃ F', PM w' B h F' (addZ Z x).2 P ∧ Turn F w w' ∧ ∀ k, F' k → F k ∨ w.heap.size ≤ k := by
  have M := Lib.hid (fun W => maybeZ_any x W)
  have HP := Lib.hid hp
  by_cases hr : rightZ x = true
  case neg =>
    have hr' : rightZ x = false := by simpa using hr
    unfold addZ
    rw [if_neg hr]
    have HS := Lib.hid (fun W (hW : Below w.heap.size w W) => pm_same hp hW)
    have B0 := Lib.hid (alloc_below w (.cells #[.int .i64 x.id, .int .i64 x.worst, .int .i64 x.gap, .int .i64 x.room, .bool x.dock, .int .i64 x.ajar] 45))
    rw [hr'] at M
    clear hr hr' hp HP
    obtain ⟨a, b, c, d, e, f⟩ := x
    unfold zval at *
    simp only at M B0 ⊢
    go_enter Try.func16, Try.ntmps16
    go_wp2_with fail
    refine (M.out _).mono ?_
    rintro e w1 ⟨rfl, hb⟩
    have B1 := Lib.hid (B0.out.trans (hb.mono B0.out.size))
    clear hb
    go_wp2
    go_ret
    exact ⟨rfl, HS.out _ B1.out⟩
  unfold addZ
  rw [if_pos hr]
  have hid := rightZ_id hr
  have h64 := in64_of (m := x.id) (by omega) (by omega)
  obtain ⟨mz, mp, hl, hB, hF, hz, hpp, hd⟩ := hp
  have CA := Lib.hid (fun (W : World) (hW : Below w.heap.size w W) => taddZ_any B h mz mp Z x W (hl.below hW hl.lt) (tab_turn hz (Turn.of_below (S := fun _ => False) hW) (fun _ _ hh => hh)) h64 (Nat.le_trans hB (Nat.le_of_lt (Nat.lt_of_lt_of_le hl.lt hW.size))) hL)
  have CE := Lib.hid (fun (W : World) (hW : Below w.heap.size w W) e (w' : World) (h2 : TaddZ W B h mz mp Z x e w') => pm_addZ (w := w) (F := F) (Z := Z) (P := P) hB hF (hl.below hW hl.lt) (tab_turn hpp (Turn.of_below (S := fun _ => False) hW) (fun _ _ hh => hh)) hd (Turn.of_below hW) hW.size (fun k hk => Nat.lt_of_lt_of_le (tab_lt hpp hk).2 hW.size) h2)
  have HL := Lib.hid hl.lt
  have B0 := Lib.hid (alloc_below w (.cells #[.int .i64 x.id, .int .i64 x.worst, .int .i64 x.gap, .int .i64 x.room, .bool x.dock, .int .i64 x.ajar] 45))
  have X0 := Lib.hid (Lies.new w 45 #[.int .i64 x.id, .int .i64 x.worst, .int .i64 x.gap, .int .i64 x.room, .bool x.dock, .int .i64 x.ajar])
  rw [hr] at M
  clear hr hid h64 hl hB hF hz hpp hd HP
  obtain ⟨a, b, c, d, e, f⟩ := x
  unfold zval at *
  simp only at M CA CE B0 X0 ⊢
  go_enter Try.func16, Try.ntmps16
  go_wp2_with fail
  refine (M.out _).mono ?_
  rintro e w1 ⟨rfl, hb⟩
  have B1 := Lib.hid (B0.out.trans (hb.mono B0.out.size))
  have X1 := Lib.hid (X0.out.below hb X0.out.lt)
  clear hb B0 X0 M
  have x0 : w1.cell? ⟨w.heap.size, 0, none⟩ = some (.int .i64 a) := X1.out.cell 0
  have x1 : w1.cell? ⟨w.heap.size, 1, none⟩ = some (.int .i64 b) := X1.out.cell 1
  have x2 : w1.cell? ⟨w.heap.size, 2, none⟩ = some (.int .i64 c) := X1.out.cell 2
  have x3 : w1.cell? ⟨w.heap.size, 3, none⟩ = some (.int .i64 d) := X1.out.cell 3
  have x4 : w1.cell? ⟨w.heap.size, 4, none⟩ = some (.bool e) := X1.out.cell 4
  have x5 : w1.cell? ⟨w.heap.size, 5, none⟩ = some (.int .i64 f) := X1.out.cell 5
  go_wp2_with fail
  go_still_tail 6, (by kernel_rfl)
  repeat still_step
  have BD : Hid (Below w.heap.size w w1.drew) := Lib.hid (below_drewN B1.out 1)
  clear x0 x1 x2 x3 x4 x5
  obtain ⟨w2, hw2⟩ : ∃ w2, w1.drew = w2 := ⟨_, rfl⟩
  rw [hw2] at BD
  rw [show ({ heap := w1.heap, tape := w1.tape, drawn := w1.drawn + 1, os := w1.os, output := w1.output } : World) = w2 from hw2]
  go_wp2_with fail
  refine (CA.out _ BD.out).mono ?_
  intro e w3 he
  have HE := Lib.hid (CE.out _ BD.out _ _ he)
  obtain ⟨rfl, _⟩ := he
  go_wp2
  go_ret
  exact ⟨rfl, HE.out.2⟩
set_option maxRecDepth 100000 in
set_option maxHeartbeats 4000000 in
theorem prowZ_any (B h : Nat) (F : Nat → Prop) (Z : List Zn) (P : List Pd) (m : Int) (w : World) (hp : PM w B h F Z P) (h0 : -9223372036854775808 ≤ m) (h1 : m ≤ 9223372036854775807) :
    Calls Try.prog 56 #[.pointer (some ⟨h, 0, none⟩), .int .i64 m] w fun e w' =>
      e = .returned (.tuple #[zval (getK (findK Zn.id m Z) zn0).1, .int .i64 ((getK (findK Zn.id m Z) zn0).2 : Nat)]) ∧ Below w.heap.size w w' := by
  obtain ⟨mz, mp, hl, hB, hF, hz, hpp, hd⟩ := hp
  have h64 := in64_of h0 h1
  have CA := Lib.hid (fun (W : World) (hW : Below w.heap.size w W) => trowZ B h mz mp Z m W (hl.below hW hl.lt) (tab_turn hz (Turn.of_below (S := fun _ => False) hW) (fun _ _ hh => hh)) h64)
  have B0 := Lib.hid (alloc_below w (.cells #[.int .i64 0, .int .i64 0, .int .i64 0, .int .i64 0, .bool false, .int .i64 0] 45))
  have X0 := Lib.hid (Lies.new w 45 #[.int .i64 0, .int .i64 0, .int .i64 0, .int .i64 0, .bool false, .int .i64 0])
  clear hl hB hF hz hpp hd h64 h0 h1
  generalize getK (findK Zn.id m Z) zn0 = g at *
  obtain ⟨⟨a, b, c, d, e, f⟩, er⟩ := g
  unfold zval at *
  simp only at CA ⊢
  go_enter Try.func56, Try.ntmps56
  go_wp2_with fail
  refine (CA.out _ B0.out).mono ?_
  rintro e w1 ⟨rfl, hb⟩
  have B1 := Lib.hid (B0.out.trans (hb.mono B0.out.size))
  have X1 := Lib.hid (X0.out.below hb X0.out.lt)
  clear hb B0 X0 CA
  have r0 : w1.cell? ⟨w.heap.size, 0, none⟩ = some (.int .i64 0) := X1.out.cell 0
  have g0 := X1.out.frozen 0
  have r1 : w1.cell? ⟨w.heap.size, 1, none⟩ = some (.int .i64 0) := X1.out.cell 1
  have g1 := X1.out.frozen 1
  have r2 : w1.cell? ⟨w.heap.size, 2, none⟩ = some (.int .i64 0) := X1.out.cell 2
  have g2 := X1.out.frozen 2
  have r3 : w1.cell? ⟨w.heap.size, 3, none⟩ = some (.int .i64 0) := X1.out.cell 3
  have g3 := X1.out.frozen 3
  have r4 : w1.cell? ⟨w.heap.size, 4, none⟩ = some (.bool false) := X1.out.cell 4
  have g4 := X1.out.frozen 4
  have r5 : w1.cell? ⟨w.heap.size, 5, none⟩ = some (.int .i64 0) := X1.out.cell 5
  have g5 := X1.out.frozen 5
  go_wp2
  refine bodyPost_ret (v := .tuple #[.agg #[.int .i64 a, .int .i64 b, .int .i64 c, .int .i64 d, .bool e, .int .i64 f], .int .i64 er]) (by simp [results, Try.results56, go_sem, r0, r1, r2, r3, r4, r5]) rfl ⟨rfl, ?_⟩
  iterate 6 refine Below.setCell ?_ (show w.heap.size ≤ _ from Nat.le_refl _) _
  exact B1.out
theorem nil_addZ (x : Zn) (w : World) : Calls Try.prog 16 #[.pointer none, zval x] w fun e w' => e = .returned (.int .i64 1) ∧ Below w.heap.size w w' := by
  obtain ⟨a, b, c, d, e, f⟩ := x
  unfold zval
  go_enter Try.func16, Try.ntmps16
  go_wp2
  go_ret
  exact ⟨rfl, alloc_below w _⟩
theorem nil_rowZ (m : Int) (w : World) : Calls Try.prog 56 #[.pointer none, .int .i64 m] w fun e w' => e = .returned (.tuple #[zval zn0, .int .i64 1]) ∧ Below w.heap.size w w' := by
  go_enter Try.func56, Try.ntmps56
  go_wp2
  refine bodyPost_ret (v := .tuple #[zval zn0, .int .i64 1]) (by simp [results, Try.results56, go_sem, zval, zn0]) rfl ⟨rfl, alloc_below w _⟩
end Ms
end Go.Proofs.Ytkfmkchonlajpaa

namespace Go.Proofs.Ytkfmkchonlajpaa
open Go.RowKit Go.Maps

namespace Ms
set_option maxRecDepth 100000 in
set_option maxHeartbeats 4000000 in
/-- One of its number is there. -/
theorem taddP_twice (B h : Nat) (mz mp : Option Nat) (S : List Pd) (x : Pd) (w : World) (hl : Lies w h 79 #[.map mz, .map mp]) (ht : Tab Pf Pd.id w B mp S) (hm : In64 x.id) (hf : findK Pd.id x.id S ≠ none) :
    Calls Try.prog 35 #[.pointer (some ⟨h, 1, none⟩), .int .i64 x.id, pval x] w fun e w' => e = .returned (.int .i64 6) ∧ Below w.heap.size w w' := by
  have K := fun W hW => tlookP ht hm W hW
  generalize findK Pd.id x.id S = o at *
  obtain ⟨a, b, c⟩ := x
  unfold pval at *
  simp only at K ⊢
  have B1 := Lib.hid (alloc_below w (.cells #[.int .i64 a, .int .i64 b, .int .i64 c] 48))
  have L1 := Lib.hid (hl.alloc (.cells #[.int .i64 a, .int .i64 b, .int .i64 c] 48))
  obtain ⟨w1, hw1⟩ : ∃ w1, w.alloc (.cells #[.int .i64 a, .int .i64 b, .int .i64 c] 48) = w1 := ⟨_, rfl⟩
  rw [hw1] at B1 L1
  have k1 := K w1 B1.out
  have l0 : w1.cell? ⟨h, 1, none⟩ = some (.map mp) := L1.out.cell 1
  clear K ht hm hl
  cases o with
  | none => exact absurd rfl hf
  | some y =>
    obtain ⟨a2, b2, c2⟩ := y
    simp only [Option.getD_some, Option.isSome_some] at k1
    clear hf
    go_enter Try.func35, Try.ntmps35
    go_wp2
    go_ret
    exact ⟨rfl, B1.out.alloc B1.out.size _⟩
set_option maxRecDepth 100000 in
set_option maxHeartbeats 4000000 in
/-- The first one of all. -/
theorem taddP_first (h : Nat) (mz mp : Option Nat) (x : Pd) (w : World) (hl : Lies w h 79 #[.map mz, .map mp]) (hmo : mp = none) (hm : In64 x.id) :
    Calls Try.prog 35 #[.pointer (some ⟨h, 1, none⟩), .int .i64 x.id, pval x] w fun e w' => e = .returned (.int .i64 0) ∧
      ∃ q, w.heap.size ≤ q ∧ Lies w' h 79 #[.map mz, .map (some q)] ∧ w'.ownsMap Try.prog 3 (rdF Pf) q 1 (DataW.put (.map []) (.int .i64 x.id) (pdat x)) ∧ Turn (fun k => k = h) w w' := by
  subst hmo
  have K := fun (W : World) hW => tlookP (S := []) (B := 0) (w := w) (.inl ⟨rfl, rfl⟩) hm W hW
  simp only [findK, Option.getD_none, Option.isSome_none, pd0] at K
  have HKEY := Lib.hid (key_of hm)
  have HD := Lib.hid (rd_mk (Fm := Pf) x)
  obtain ⟨a, b, c⟩ := x
  simp only [Pf, pval, pdat] at K HKEY HD ⊢
  have B1 := Lib.hid (alloc_below w (.cells #[.int .i64 a, .int .i64 b, .int .i64 c] 48))
  have L1 := Lib.hid (hl.alloc (.cells #[.int .i64 a, .int .i64 b, .int .i64 c] 48))
  have X1 := Lib.hid (Lies.new w 48 #[.int .i64 a, .int .i64 b, .int .i64 c])
  have HL := Lib.hid hl.lt
  obtain ⟨w1, hw1⟩ : ∃ w1, w.alloc (.cells #[.int .i64 a, .int .i64 b, .int .i64 c] 48) = w1 := ⟨_, rfl⟩
  rw [hw1] at B1 L1 X1
  have B2 := Lib.hid (B1.out.alloc B1.out.size (.cells #[.int .i64 0, .int .i64 0, .int .i64 0] 48))
  have L2 := Lib.hid (L1.out.alloc (.cells #[.int .i64 0, .int .i64 0, .int .i64 0] 48))
  have X2 := Lib.hid (X1.out.alloc (.cells #[.int .i64 0, .int .i64 0, .int .i64 0] 48))
  have k1 := K w1 B1.out
  have l1 : w1.cell? ⟨h, 1, none⟩ = some (.map none) := L1.out.cell 1
  have f1 : w1.frozen? ⟨h, 1, none⟩ = false := L1.out.frozen 1
  have FC : ∀ ob i, (w1.alloc ob).cell? ⟨h, i, none⟩ = w1.cell? ⟨h, i, none⟩ := fun ob i => (alloc_below w1 ob).cell (p := ⟨h, i, none⟩) L1.out.lt
  have FD : ∀ ob ob2 i, ((w1.alloc ob).alloc ob2).cell? ⟨h, i, none⟩ = w1.cell? ⟨h, i, none⟩ := fun ob ob2 i => ((alloc_below w1 ob).alloc (by simp) ob2).cell (p := ⟨h, i, none⟩) L1.out.lt
  have FG : ∀ ob ob2 i, ((w1.alloc ob).alloc ob2).frozen? ⟨h, i, none⟩ = w1.frozen? ⟨h, i, none⟩ := fun ob ob2 i => ((alloc_below w1 ob).alloc (by simp) ob2).frozen (p := ⟨h, i, none⟩) L1.out.lt
  have EN := fun W => run_eql_map_nil (P := Try.prog) W 75 3 48 none Try.underlying75
  have hmm := @run_makeMap Try.prog
  clear K hl hm
  go_enter Try.func35, Try.ntmps35
  go_wp2_with fail
  clear hw1 k1 l1 f1 FC FD FG EN hmm
  obtain ⟨w2, hw2⟩ : ∃ w2, w1.alloc (.cells #[.int .i64 0, .int .i64 0, .int .i64 0] 48) = w2 := ⟨_, rfl⟩
  rw [hw2] at B2 L2 X2 ⊢
  have B3 := Lib.hid (B2.out.alloc B2.out.size (.map #[] 0))
  have L3 := Lib.hid (L2.out.alloc (.map #[] 0))
  have X3 := Lib.hid (X2.out.alloc (.map #[] 0))
  have O3 := Lib.hid (World.ownsMap_made (H := Unit) w2 Try.prog 3 (rdF Pf))
  have hh2 : Hid (h < w2.heap.size) := Lib.hid L2.out.lt
  have hx2 : Hid (w.heap.size < w2.heap.size) := Lib.hid X2.out.lt
  obtain ⟨w3, hw3⟩ : ∃ w3, w2.alloc (.map #[] 0) = w3 := ⟨_, rfl⟩
  rw [hw3] at B3 L3 X3 O3 ⊢
  have hs2 : w2.heap.size = w1.heap.size + 1 := by rw [← hw2]; simp
  rw [← hs2]
  clear hw2 hw3 hs2
  have hne : w2.heap.size ≠ h := by have := hh2.out; omega
  have L4 : Hid (Lies (w3.setCell ⟨h, 1, none⟩ (.map (some w2.heap.size))) h 79 #[.map mz, .map (some w2.heap.size)]) := Lib.hid (by simpa using L3.out.set_ 1 (.map (some w2.heap.size)))
  have X4 : Hid (Lies (w3.setCell ⟨h, 1, none⟩ (.map (some w2.heap.size))) w.heap.size 48 #[.int .i64 a, .int .i64 b, .int .i64 c]) :=
    Lib.hid (X3.out.like (Below.heap_setCell w3 ⟨h, 1, none⟩ _ _ (by have := HL.out; simp only; omega)))
  have O4 := Lib.hid (own_like O3.out (Below.heap_setCell w3 ⟨h, 1, none⟩ (.map (some w2.heap.size)) w2.heap.size hne))
  have T4 := Lib.hid ((Turn.of_below (S := fun k => k = h) B3.out).setCell (p := ⟨h, 1, none⟩) (.inl rfl) (.map (some w2.heap.size)))
  generalize w3.setCell ⟨h, 1, none⟩ (.map (some w2.heap.size)) = w4 at *
  have l0 : w4.cell? ⟨h, 1, none⟩ = some (.map (some w2.heap.size)) := L4.out.cell 1
  have x0 : w4.cell? ⟨w.heap.size, 0, none⟩ = some (.int .i64 a) := X4.out.cell 0
  have x1 : w4.cell? ⟨w.heap.size, 1, none⟩ = some (.int .i64 b) := X4.out.cell 1
  have x2 : w4.cell? ⟨w.heap.size, 2, none⟩ = some (.int .i64 c) := X4.out.cell 2
  generalize w2.heap.size = q at *
  have HN := Lib.hid hne
  clear hne
  go_still_tail 6, (by kernel_rfl)
  repeat still_step
  refine wpList_mapUpdate_own w4.drew rfl _ _ _ 75 rfl 3 48 lawI Try.underlying75 (rdF Pf) q 0 (.map []) rfl O4.out.drew (by decide) _ _ (.int .i64 a) rfl rfl HKEY.out _ [] HD.out ?_
  intro w5 hown5 hg5
  have T5 := Lib.hid (T4.out.drew.grown hg5 (fun k hk => .inr (by have := Option.some.inj hk; have := hx2.out; omega)))
  have L5 : Hid (Lies w5 h 79 #[.map mz, .map (some q)]) := Lib.hid (L4.out.like (hg5.block h L4.out.lt (fun e => HN.out (Option.some.inj e).symm)))
  have O5 := Lib.hid hown5
  clear hown5 hg5 l0 x0 x1 x2
  go_wp2
  go_ret
  exact ⟨rfl, q, by have := hx2.out; omega, L5.out, O5.out, T5.out⟩
set_option maxRecDepth 100000 in
set_option maxHeartbeats 4000000 in
/-- One more of them. -/
theorem taddP_more (B h q n : Nat) (D : DataW Unit) (mz mp : Option Nat) (S : List Pd) (x : Pd) (w : World) (hl : Lies w h 79 #[.map mz, .map mp]) (hmo : mp = some q) (hown : w.ownsMap Try.prog 3 (rdF Pf) q n D) (hn : n < maxLen)
    (ht : Tab Pf Pd.id w B mp S) (hm : In64 x.id) (hf : findK Pd.id x.id S = none) :
    Calls Try.prog 35 #[.pointer (some ⟨h, 1, none⟩), .int .i64 x.id, pval x] w fun e w' => e = .returned (.int .i64 0) ∧
      w'.ownsMap Try.prog 3 (rdF Pf) q (n + 1) (D.put (.int .i64 x.id) (pdat x)) ∧ Turn (fun k => k = q) w w' := by
  have K := fun (W : World) hW => tlookP ht hm W hW
  rw [hf] at K
  simp only [Option.getD_none, Option.isSome_none, pd0] at K
  subst hmo
  have HKEY := Lib.hid (key_of hm)
  have HD := Lib.hid (rd_mk (Fm := Pf) x)
  have HO := Lib.hid hown
  have HQ := Lib.hid hown.lt
  clear hown
  obtain ⟨a, b, c⟩ := x
  simp only [Pf, pval, pdat] at K HKEY HD HO ⊢
  have B1 := Lib.hid (alloc_below w (.cells #[.int .i64 a, .int .i64 b, .int .i64 c] 48))
  have L1 := Lib.hid (hl.alloc (.cells #[.int .i64 a, .int .i64 b, .int .i64 c] 48))
  have X1 := Lib.hid (Lies.new w 48 #[.int .i64 a, .int .i64 b, .int .i64 c])
  obtain ⟨w1, hw1⟩ : ∃ w1, w.alloc (.cells #[.int .i64 a, .int .i64 b, .int .i64 c] 48) = w1 := ⟨_, rfl⟩
  rw [hw1] at B1 L1 X1
  have B2 := Lib.hid (B1.out.alloc B1.out.size (.cells #[.int .i64 0, .int .i64 0, .int .i64 0] 48))
  have L2 := Lib.hid (L1.out.alloc (.cells #[.int .i64 0, .int .i64 0, .int .i64 0] 48))
  have X2 := Lib.hid (X1.out.alloc (.cells #[.int .i64 0, .int .i64 0, .int .i64 0] 48))
  have FC : ∀ ob i, (w1.alloc ob).cell? ⟨h, i, none⟩ = w1.cell? ⟨h, i, none⟩ := fun ob i => (alloc_below w1 ob).cell (p := ⟨h, i, none⟩) L1.out.lt
  have k1 := K w1 B1.out
  have l1 : w1.cell? ⟨h, 1, none⟩ = some (.map (some q)) := L1.out.cell 1
  have EN := fun W => run_eql_map_nil (P := Try.prog) W 75 3 48 (some q) Try.underlying75
  clear K hl hm hf ht
  go_enter Try.func35, Try.ntmps35
  go_wp2_with fail
  clear hw1 k1 l1 EN FC
  obtain ⟨w2, hw2⟩ : ∃ w2, w1.alloc (.cells #[.int .i64 0, .int .i64 0, .int .i64 0] 48) = w2 := ⟨_, rfl⟩
  rw [hw2] at B2 L2 X2 ⊢
  clear hw2
  have O2 := Lib.hid (own_like HO.out (show w2.drew.heap[q]? = w.heap[q]? from B2.out.block q HQ.out))
  have l2 : w2.cell? ⟨h, 1, none⟩ = some (.map (some q)) := L2.out.cell 1
  have x0 : w2.cell? ⟨w.heap.size, 0, none⟩ = some (.int .i64 a) := X2.out.cell 0
  have x1 : w2.cell? ⟨w.heap.size, 1, none⟩ = some (.int .i64 b) := X2.out.cell 1
  have x2 : w2.cell? ⟨w.heap.size, 2, none⟩ = some (.int .i64 c) := X2.out.cell 2
  go_still_tail 6, (by kernel_rfl)
  repeat still_step
  refine wpList_mapUpdate_own w2.drew rfl _ _ _ 75 rfl 3 48 lawI Try.underlying75 (rdF Pf) q n D rfl O2.out hn _ _ (.int .i64 a) rfl rfl HKEY.out _ [] HD.out ?_
  intro w5 hown5 hg5
  have T5 := Lib.hid (((Turn.of_below (S := fun k => k = q) B2.out).drew).grown hg5 (fun k hk => .inl (Option.some.inj hk).symm))
  have O5 := Lib.hid hown5
  clear hown5 hg5 l2 x0 x1 x2
  go_wp2
  go_ret
  exact ⟨rfl, O5.out, T5.out⟩
end Ms
end Go.Proofs.Ytkfmkchonlajpaa

namespace Go.Proofs.Ytkfmkchonlajpaa
open Go.RowKit Go.Maps

namespace Ms
theorem tlook1P {w : World} {B : Nat} {mo : Option Nat} {S : List Pd} (ht : Tab Pf Pd.id w B mo S) {m : Int} (hm : In64 m) (W : World) (hW : Below w.heap.size w W) :
    (Instr.lookup 75 (.map mo) (.int .i64 m) false).run Try.prog W = .ok (pval ((findK Pd.id m S).getD pd0)) W := by
  rcases ht with ⟨rfl, rfl⟩ | ⟨b, D, rfl, _, hown, hM⟩
  · rw [Maps.look_nil false lawI Try.underlying75 (zeroP W) (key_of hm)]
    rfl
  · exact look1 Try.underlying75 pd0 zeroP hown hM hm W (hW.block b hown.lt)
end Ms
end Go.Proofs.Ytkfmkchonlajpaa

namespace Go.Proofs.Ytkfmkchonlajpaa
open Go.RowKit Go.Maps

namespace Ms
/-- What the table holds then. -/
def TaddP (w : World) (B h : Nat) (mz mp : Option Nat) (S : List Pd) (x : Pd) (e : Ending) (w' : World) : Prop :=
  e = .returned (.int .i64 ((addL Pd.id S x).1 : Nat)) ∧ ∃ mo, Lies w' h 79 #[.map mz, .map mo] ∧ Tab Pf Pd.id w' B mo (addL Pd.id S x).2 ∧ Turn (fun k => k = h ∨ mp = some k) w w' ∧ ∀ k, mo = some k → mp = some k ∨ w.heap.size ≤ k
theorem taddP_any (B h : Nat) (mz mp : Option Nat) (S : List Pd) (x : Pd) (w : World) (hl : Lies w h 79 #[.map mz, .map mp]) (ht : Tab Pf Pd.id w B mp S) (hm : In64 x.id) (hB : B ≤ w.heap.size) (hL : S.length ≤ 1000) :
    Calls Try.prog 35 #[.pointer (some ⟨h, 1, none⟩), .int .i64 x.id, pval x] w (TaddP w B h mz mp S x) := by
  cases hf : findK Pd.id x.id S with
  | some y =>
    refine (taddP_twice B h mz mp S x w hl ht hm (by rw [hf]; simp)).mono fun e w' ⟨he, hb⟩ => ?_
    have E : addL Pd.id S x = (6, S) := by unfold addL; rw [hf]
    unfold TaddP
    rw [E]
    have ht2 := Turn.of_below (S := fun _ => False) hb
    exact ⟨he, mp, hl.turn ht2 (fun hh => hh), tab_turn ht ht2 (fun _ _ hh => hh), Turn.of_below hb, fun k hk => .inl hk⟩
  | none =>
    have E : addL Pd.id S x = (0, ins Pd.id x S) := by unfold addL; rw [hf]
    unfold TaddP
    rw [E]
    have ht0 := ht
    rcases ht with ⟨e0, rfl⟩ | ⟨b, D, e0, hBb, hown, hM⟩
    · refine (taddP_first h mz mp x w hl e0 hm).mono fun e w' ⟨he, q, hq, hl2, ho, hT⟩ => ?_
      refine ⟨he, some q, hl2, .inr ⟨q, _, rfl, by omega, ho, mp_put mp_nil Maps.tidy_empty rfl⟩, hT.mono (fun i _ hi => .inl hi), fun k hk => .inr (by have := Option.some.inj hk; omega)⟩
    · have hne : b ≠ h := fun e => tab_ne ht0 hl (by rw [e0, e])
      refine (taddP_more B h b S.length D mz mp S x w hl e0 hown (by unfold maxLen; omega) ht0 hm hf).mono fun e w' ⟨he, ho, hT⟩ => ?_
      have hM2 := mp_put hM (hown.tidy lawI) hf
      have ho2 := own_tight ho
      refine ⟨he, mp, hl.turn hT (fun e => hne e.symm), .inr ⟨b, _, e0, hBb, ?_, hM2⟩, hT.mono (fun i _ hi => .inr (by rw [e0, hi])), fun k hk => .inl hk⟩
      have h3 : Maps.size (D.put (.int .i64 x.id) (pdat x)) = (ins Pd.id x S).length := hM2.size
      rw [h3] at ho2
      exact ho2
theorem pm_addP {w wi w' : World} {B h : Nat} {F : Nat → Prop} {mz mp : Option Nat} {Z : List Zn} {P : List Pd} {x : Pd} {e : Ending} (hB : B ≤ h) (hF : ∀ k, F k ↔ k = h ∨ mz = some k ∨ mp = some k) (hl : Lies wi h 79 #[.map mz, .map mp]) (ho : Tab Zf Zn.id wi B mz Z) (hd : ∀ k, mz = some k → mp ≠ some k)
    (hT : Turn F w wi) (hn : w.heap.size ≤ wi.heap.size) (hlo : ∀ k, mz = some k → k < wi.heap.size) (h2 : TaddP wi B h mz mp P x e w') :
    e = .returned (.int .i64 ((addL Pd.id P x).1 : Nat)) ∧ ∃ F', PM w' B h F' Z (addL Pd.id P x).2 ∧ Turn F w w' ∧ ∀ k, F' k → F k ∨ w.heap.size ≤ k := by
  obtain ⟨he, mo, hl2, ht2, hT2, hk2⟩ := h2
  refine ⟨he, fun k => k = h ∨ mz = some k ∨ mo = some k, ⟨mz, mo, hl2, hB, fun k => Iff.rfl, tab_turn ho hT2 (fun k hk hh => hh.elim (fun e => tab_ne ho hl (by rw [hk, e])) (fun e => hd k hk e)), ht2, ?_⟩, hT.trans hT2 (fun i hi => .inl ((hF i).2 ?_)), fun k hk => ?_⟩
  · intro k hk hk'
    rcases hk2 k hk' with e | e
    · exact hd k hk e
    · have := hlo k hk
      omega
  · rcases hi with rfl | hi
    · exact .inl rfl
    · exact .inr (.inr hi)
  · rcases hk with rfl | hk | hk
    · exact .inl ((hF _).2 (.inl rfl))
    · exact .inl ((hF k).2 (.inr (.inl hk)))
    · exact (hk2 k hk).elim (fun e => .inl ((hF k).2 (.inr (.inr e)))) (fun e => .inr (Nat.le_trans hn e))
set_option maxRecDepth 100000 in
set_option maxHeartbeats 4000000 in
theorem paddP_any (B h : Nat) (F : Nat → Prop) (Z : List Zn) (P : List Pd) (x : Pd) (w : World) (hp : PM w B h F Z P) (hL : P.length ≤ 1000) :
    Calls Try.prog 17 #[.pointer (some ⟨h, 0, none⟩), pval x] w fun e w' =>
      e = .returned (.int .i64 ((addP P x).1 : Nat)) ∧ ∃ F', PM w' B h F' Z (addP P x).2 ∧ Turn F w w' ∧ ∀ k, F' k → F k ∨ w.heap.size ≤ k := by
  have M := Lib.hid (fun W => maybeP_any x W)
  have HP := Lib.hid hp
  by_cases hr : rightP x = true
  case neg =>
    have hr' : rightP x = false := by simpa using hr
    unfold addP
    rw [if_neg hr]
    have HS := Lib.hid (fun W (hW : Below w.heap.size w W) => pm_same hp hW)
    have B0 := Lib.hid (alloc_below w (.cells #[.int .i64 x.id, .int .i64 x.limit, .int .i64 x.budget] 48))
    rw [hr'] at M
    clear hr hr' hp HP
    obtain ⟨a, b, c⟩ := x
    unfold pval at *
    simp only at M B0 ⊢
    go_enter Try.func17, Try.ntmps17
    go_wp2_with fail
    refine (M.out _).mono ?_
    rintro e w1 ⟨rfl, hb⟩
    have B1 := Lib.hid (B0.out.trans (hb.mono B0.out.size))
    clear hb
    go_wp2
    go_ret
    exact ⟨rfl, HS.out _ B1.out⟩
  unfold addP
  rw [if_pos hr]
  have hid := rightP_id hr
  have h64 := in64_of (m := x.id) (by omega) (by omega)
  obtain ⟨mz, mp, hl, hB, hF, hz, hpp, hd⟩ := hp
  have CA := Lib.hid (fun (W : World) (hW : Below w.heap.size w W) => taddP_any B h mz mp P x W (hl.below hW hl.lt) (tab_turn hpp (Turn.of_below (S := fun _ => False) hW) (fun _ _ hh => hh)) h64 (Nat.le_trans hB (Nat.le_of_lt (Nat.lt_of_lt_of_le hl.lt hW.size))) hL)
  have CE := Lib.hid (fun (W : World) (hW : Below w.heap.size w W) e (w' : World) (h2 : TaddP W B h mz mp P x e w') => pm_addP (w := w) (F := F) (Z := Z) (P := P) hB hF (hl.below hW hl.lt) (tab_turn hz (Turn.of_below (S := fun _ => False) hW) (fun _ _ hh => hh)) hd (Turn.of_below hW) hW.size (fun k hk => Nat.lt_of_lt_of_le (tab_lt hz hk).2 hW.size) h2)
  have HL := Lib.hid hl.lt
  have B0 := Lib.hid (alloc_below w (.cells #[.int .i64 x.id, .int .i64 x.limit, .int .i64 x.budget] 48))
  have X0 := Lib.hid (Lies.new w 48 #[.int .i64 x.id, .int .i64 x.limit, .int .i64 x.budget])
  rw [hr] at M
  clear hr hid h64 hl hB hF hz hpp hd HP
  obtain ⟨a, b, c⟩ := x
  unfold pval at *
  simp only at M CA CE B0 X0 ⊢
  go_enter Try.func17, Try.ntmps17
  go_wp2_with fail
  refine (M.out _).mono ?_
  rintro e w1 ⟨rfl, hb⟩
  have B1 := Lib.hid (B0.out.trans (hb.mono B0.out.size))
  have X1 := Lib.hid (X0.out.below hb X0.out.lt)
  clear hb B0 X0 M
  have x0 : w1.cell? ⟨w.heap.size, 0, none⟩ = some (.int .i64 a) := X1.out.cell 0
  have x1 : w1.cell? ⟨w.heap.size, 1, none⟩ = some (.int .i64 b) := X1.out.cell 1
  have x2 : w1.cell? ⟨w.heap.size, 2, none⟩ = some (.int .i64 c) := X1.out.cell 2
  go_wp2_with fail
  go_still_tail 6, (by kernel_rfl)
  repeat still_step
  have BD : Hid (Below w.heap.size w w1.drew) := Lib.hid (below_drewN B1.out 1)
  clear x0 x1 x2
  obtain ⟨w2, hw2⟩ : ∃ w2, w1.drew = w2 := ⟨_, rfl⟩
  rw [hw2] at BD
  rw [show ({ heap := w1.heap, tape := w1.tape, drawn := w1.drawn + 1, os := w1.os, output := w1.output } : World) = w2 from hw2]
  go_wp2_with fail
  refine (CA.out _ BD.out).mono ?_
  intro e w3 he
  have HE := Lib.hid (CE.out _ BD.out _ _ he)
  obtain ⟨rfl, _⟩ := he
  go_wp2
  go_ret
  exact ⟨rfl, HE.out.2⟩
set_option maxRecDepth 100000 in
set_option maxHeartbeats 4000000 in
theorem prowP_any (B h : Nat) (F : Nat → Prop) (Z : List Zn) (P : List Pd) (m : Int) (w : World) (hp : PM w B h F Z P) (h0 : -9223372036854775808 ≤ m) (h1 : m ≤ 9223372036854775807) :
    Calls Try.prog 39 #[.pointer (some ⟨h, 0, none⟩), .int .i64 m] w fun e w' =>
      e = .returned (.tuple #[pval (getK (findK Pd.id m P) pd0).1, .int .i64 ((getK (findK Pd.id m P) pd0).2 : Nat)]) ∧ Below w.heap.size w w' := by
  obtain ⟨mz, mp, hl, hB, hF, hz, hpp, hd⟩ := hp
  have h64 := in64_of h0 h1
  have CA := Lib.hid (fun (W : World) (hW : Below w.heap.size w W) => trowP B h mz mp P m W (hl.below hW hl.lt) (tab_turn hpp (Turn.of_below (S := fun _ => False) hW) (fun _ _ hh => hh)) h64)
  have B0 := Lib.hid (alloc_below w (.cells #[.int .i64 0, .int .i64 0, .int .i64 0] 48))
  have X0 := Lib.hid (Lies.new w 48 #[.int .i64 0, .int .i64 0, .int .i64 0])
  clear hl hB hF hz hpp hd h64 h0 h1
  generalize getK (findK Pd.id m P) pd0 = g at *
  obtain ⟨⟨a, b, c⟩, er⟩ := g
  unfold pval at *
  simp only at CA ⊢
  go_enter Try.func39, Try.ntmps39
  go_wp2_with fail
  refine (CA.out _ B0.out).mono ?_
  rintro e w1 ⟨rfl, hb⟩
  have B1 := Lib.hid (B0.out.trans (hb.mono B0.out.size))
  have X1 := Lib.hid (X0.out.below hb X0.out.lt)
  clear hb B0 X0 CA
  have r0 : w1.cell? ⟨w.heap.size, 0, none⟩ = some (.int .i64 0) := X1.out.cell 0
  have g0 := X1.out.frozen 0
  have r1 : w1.cell? ⟨w.heap.size, 1, none⟩ = some (.int .i64 0) := X1.out.cell 1
  have g1 := X1.out.frozen 1
  have r2 : w1.cell? ⟨w.heap.size, 2, none⟩ = some (.int .i64 0) := X1.out.cell 2
  have g2 := X1.out.frozen 2
  go_wp2
  refine bodyPost_ret (v := .tuple #[.agg #[.int .i64 a, .int .i64 b, .int .i64 c], .int .i64 er]) (by simp [results, Try.results39, go_sem, r0, r1, r2]) rfl ⟨rfl, ?_⟩
  iterate 3 refine Below.setCell ?_ (show w.heap.size ≤ _ from Nat.le_refl _) _
  exact B1.out
theorem nil_addP (x : Pd) (w : World) : Calls Try.prog 17 #[.pointer none, pval x] w fun e w' => e = .returned (.int .i64 1) ∧ Below w.heap.size w w' := by
  obtain ⟨a, b, c⟩ := x
  unfold pval
  go_enter Try.func17, Try.ntmps17
  go_wp2
  go_ret
  exact ⟨rfl, alloc_below w _⟩
theorem nil_rowP (m : Int) (w : World) : Calls Try.prog 39 #[.pointer none, .int .i64 m] w fun e w' => e = .returned (.tuple #[pval pd0, .int .i64 1]) ∧ Below w.heap.size w w' := by
  go_enter Try.func39, Try.ntmps39
  go_wp2
  refine bodyPost_ret (v := .tuple #[pval pd0, .int .i64 1]) (by simp [results, Try.results39, go_sem, pval, pd0]) rfl ⟨rfl, alloc_below w _⟩
end Ms
end Go.Proofs.Ytkfmkchonlajpaa
