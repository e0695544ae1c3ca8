/- Walks over package excess: minutes in runs, by a range over a function: the iterator's contract. Conditions: a series in order, minutes that count. -/
import Derived.Test.YtfmnbmjfkplieaaExP1
import Derived.Test.YtfmnbmjfkplieaaRng
import Derived.Scope
import Derived.WalkMore
namespace Go.Proofs.Ytfmnbmjfkplieaa
open Go.RowKit Se
attribute [local go_sem] Oper.semAt_some

namespace Ex
theorem noGoto_on {Q : Exit → Act → World → Prop} {a : Act} {w : World} : Exit.noGoto Q .normal a w = Q .normal a w := rfl
abbrev rcs (x : Rn) : Array Value := #[.int .i64 x.1.1, .int .i64 x.1.2]
/-- What a round keeps: blocks but those of a set, and new ones. -/
def Kept (T : Nat → Prop) (n₀ : Nat) (A B : World) : Prop := Turn (fun k => T k ∨ n₀ ≤ k) A B
theorem kept_t {T : Nat → Prop} {n₀ : Nat} {A B C : World} (h : Kept T n₀ A B) (k : Kept T n₀ B C) : Kept T n₀ A C := Turn.trans h k (fun _ hi => .inl hi)
theorem kept_b {T : Nat → Prop} {n₀ : Nat} (W : World) (l : Nat) (o o' : Obj) (hl : n₀ ≤ l) (_ : W.heap[l]? = some o) (_ : o.isCells = false) (_ : o.isWalk = false) : Kept T n₀ W (W.putObj l o') :=
  (Turn.refl _ W).grown (grownBy_putObj' W l o') (fun k e => by cases e; exact .inl (.inr hl))
theorem three_made (w : World) (v1 v2 v3 : Value) (t1 t2 t3 : TypeId) : Below w.heap.size w (((w.alloc (.cells #[v1] t1)).alloc (.cells #[v2] t2)).alloc (.cells #[v3] t3)) ∧
    Lies (((w.alloc (.cells #[v1] t1)).alloc (.cells #[v2] t2)).alloc (.cells #[v3] t3)) w.heap.size t1 #[v1] ∧ Lies (((w.alloc (.cells #[v1] t1)).alloc (.cells #[v2] t2)).alloc (.cells #[v3] t3)) (w.heap.size + 1) t2 #[v2] ∧
    Lies (((w.alloc (.cells #[v1] t1)).alloc (.cells #[v2] t2)).alloc (.cells #[v3] t3)) (w.heap.size + 1 + 1) t3 #[v3] ∧ (((w.alloc (.cells #[v1] t1)).alloc (.cells #[v2] t2)).alloc (.cells #[v3] t3)).heap.size = w.heap.size + 3 := by
  have a2 := Lies.new (w.alloc (.cells #[v1] t1)) t2 #[v2]
  rw [World.size_alloc] at a2
  have a3 := Lies.new ((w.alloc (.cells #[v1] t1)).alloc (.cells #[v2] t2)) t3 #[v3]
  rw [World.size_alloc, World.size_alloc] at a3
  exact ⟨((alloc_below w _).alloc (by simp) _).alloc (by simp; omega) _, ((Lies.new w _ _).alloc _).alloc _, a2.alloc _, a3, by simp⟩
theorem runs_make (a b : Int) (h : Nat) (w : World) : Calls Try.prog 33 #[.pointer (some ⟨h, 0, none⟩), .int .i64 a, .int .i64 b] w fun e w' =>
    e = .returned (.func (.func 49) #[] #[.pointer (some ⟨w.heap.size + 1, 0, none⟩), .pointer (some ⟨w.heap.size + 1 + 1, 0, none⟩), .pointer (some ⟨w.heap.size, 0, none⟩)]) ∧
    Below w.heap.size w w' ∧ Lies w' w.heap.size 40 #[.pointer (some ⟨h, 0, none⟩)] ∧ Lies w' (w.heap.size + 1) 3 #[.int .i64 a] ∧ Lies w' (w.heap.size + 1 + 1) 3 #[.int .i64 b] ∧ w'.heap.size = w.heap.size + 3 := by
  have T := Lib.hid (three_made w (.pointer (some ⟨h, 0, none⟩)) (.int .i64 a) (.int .i64 b) 40 3 3)
  go_enter Try.func33, Try.ntmps33
  go_wp2
  go_ret
  exact ⟨rfl, T.out⟩
set_option maxRecDepth 100000 in
set_option maxHeartbeats 4000000 in
theorem runs_in (n : Nat) (hn : 1 ≤ n) (T : Nat → Prop) (n₀ l B h b1 b2 b3 : Nat) (F : Nat → Prop) (wo ga lim a b : Int) (S : List Rd) (J Jx : List Rn → World → Prop) (w : World)
    (hp : PSF w B h F wo ga S) (hs : Sorted S) (hr : ∀ x ∈ S, rightB x = true) (hm : mayB wo ga = true) (hL : S.length ≤ 1000)
    (ha : 0 ≤ a) (ha' : a ≤ 1048576) (hb : 0 ≤ b) (hb' : b ≤ 1048576) (c1 : Lies w b1 3 #[.int .i64 a]) (c2 : Lies w b2 3 #[.int .i64 b]) (c3 : Lies w b3 40 #[.pointer (some ⟨h, 0, none⟩)])
    (hT : ∀ k, T k → ¬ F k ∧ k ≠ b1 ∧ k ≠ b2 ∧ k ≠ b3) (hn0 : ∀ k, F k ∨ k = b1 ∨ k = b2 ∨ k = b3 → k < n₀)
    (hJ : AbidesFrom w.heap.size J)
    (hY : ∀ pre x W1, J pre W1 → pre.length < 1048576 → YieldAt Fence.wide (n - 1) Try.prog l (rcs x) W1 fun e W' =>
      (e = .returned (.bool true) ∧ J (pre ++ [x]) W' ∧ Kept T n₀ W1 W') ∨ (e = .returned (.bool false) ∧ Jx (pre ++ [x]) W'))
    (h0 : J [] w) :
    CallsIn Fence.wide n Try.prog 49 #[.func (.yield l) #[] #[], .pointer (some ⟨b1, 0, none⟩), .pointer (some ⟨b2, 0, none⟩), .pointer (some ⟨b3, 0, none⟩)] w fun e W' =>
      (∃ v, e = .returned v) ∧ ((∃ xs, Chn (exm wo ga lim S) a xs (max a b) ∧ J xs W') ∨ (∃ pre, (∃ c, Chn (exm wo ga lim S) a pre c ∧ c ≤ 1048576) ∧ Jx pre W')) := by
  have NX := Lib.hid (fun W m (hq : PSF W B h F wo ga S) (m0 : -9223372036854775808 ≤ m) (m1 : m ≤ 9223372036854775807) => face.nextAt B h F wo ga S m W hq hs hr hm hL m0 m1)
  have HR : ∀ x ∈ S, 0 ≤ x.min := fun x hx => (right_of (hr x hx)).2.2.1
  have NG := Lib.hid (fun m (hx : 0 ≤ next ga S m) => next_gt (ga := ga) (m := m) HR hx)
  have AS := Lib.hid (fun m e (hx : next ga S m < 0 ∨ e ≤ next ga S m) t (t1 : m ≤ t) (t2 : t < e) => show exm wo ga lim S t = exm wo ga lim S m by
    unfold exm
    have := air_same (wo := wo) (ga := ga) (m := m) (f := t - m) (l := S) HR (by omega) (by omega)
    rw [show m + (t - m) = t by omega] at this
    rw [this])
  generalize exm wo ga lim S = f at *
  have HT := Lib.hid (fun k (hk : F k ∨ k = b1 ∨ k = b2 ∨ k = b3) (h : T k ∨ n₀ ≤ k) => show False by
    have h1 := hn0 k hk
    rcases h with h | h
    · have := hT k h
      rcases hk with hk | hk | hk | hk
      · exact this.1 hk
      · exact this.2.1 hk
      · exact this.2.2.1 hk
      · exact this.2.2.2 hk
    · omega)
  have HJ := Lib.hid (fun pre {A B : World} (hw : w.heap.size ≤ A.heap.size) (h : J pre A) (hb : Below A.heap.size A B) => hJ pre A B none h (grown_of_below hb) (fun _ e => by cases e))
  have HY := Lib.hid hY
  have HP := Lib.hid hp
  have C1 := Lib.hid c1
  have C2 := Lib.hid c2
  have C3 := Lib.hid c3
  have x1 : w.cell? ⟨b1, 0, none⟩ = some (.int .i64 a) := c1.cell 0
  have H0 := Lib.hid h0
  clear hp hs hr hm hL hT hn0 hJ hY h0 HR c1 c2 c3
  refine callsIn_of_wp Try.func49 rfl trivial ?_ rfl
  simp only [Try.ntmps49, List.size_toArray, List.length_cons, List.length_nil, Nat.reduceAdd, Nat.reduceSub, Array.replicate_succ, Array.replicate_zero, List.push_toArray, List.append_toArray, List.nil_append, List.cons_append]
  refine wpIn_wide.2 (wp_scope_straight (wpIn_wide (n := n).1 ?_))
  gi_wp2
  refine wpIn_label ?_
  gi_wp2
  clear x1
  gi_loopw [5] (fun st wr => ∃ (pre : List Rn) (c : Int), st = .int .i64 c ∧ 0 ≤ c ∧ c ≤ 1048576 ∧ Hid (c ≤ max a b) ∧ Hid (Chn f a pre c) ∧ Hid (Kept T n₀ w wr) ∧ Hid (J pre wr)) (fun st _ => (1048576 - intOf st).toNat)
  case atStart => exact ⟨[], a, rfl, ha, by omega, Lib.hid (by omega), Lib.hid rfl, Lib.hid (Turn.refl _ _), H0⟩
  case round =>
    clear H0
    obtain ⟨pre, c, rfl, hc0, hc1, HM, HC, HK, HI⟩ := hrel
    have y2 : wr.cell? ⟨b2, 0, none⟩ = some (.int .i64 b) := (C2.out.turn HK.out (fun h => HT.out b2 (.inr (.inr (.inl rfl))) h)).cell 0
    have y3 : wr.cell? ⟨b3, 0, none⟩ = some (.pointer (some ⟨h, 0, none⟩)) := (C3.out.turn HK.out (fun h => HT.out b3 (.inr (.inr (.inr rfl))) h)).cell 0
    have HPr := Lib.hid (face.turn HP.out HK.out (fun k hk h => HT.out k (.inl hk) h))
    have HS := Lib.hid (show w.heap.size ≤ wr.heap.size from HK.out.size)
    by_cases hlt : c < b
    · have NC := Lib.hid (NX.out wr c HPr.out (by omega) (by omega))
      have hlen : pre.length < 1048576 := by
        have := chn_len HC.out
        omega
      have HN := Lib.hid (NG.out c)
      have HA := Lib.hid (fun e he => AS.out c e he)
      obtain ⟨x, hx⟩ : ∃ x, next ga S c = x := ⟨_, rfl⟩
      rw [hx] at NC HN HA
      clear hx NX NG AS HPr
      gi_wp2_with fail
      refine ⟨trivial, (callsIn_wide.2 NC.out).mono ?_⟩
      rintro e w2 ⟨rfl, hb2⟩
      have HJ2 := Lib.hid (HJ.out pre HS.out HI.out hb2)
      have HK2 := Lib.hid (kept_t HK.out (Turn.of_below hb2))
      have z2 : w2.cell? ⟨b2, 0, none⟩ = some (.int .i64 b) := (hb2.cell (p := ⟨b2, 0, none⟩) (World.block_lt_of_cell? wr _ y2)).trans y2
      clear y2 y3 hb2 NC HI HK HS
      by_cases hend : x < 0 ∨ b ≤ x
      · obtain ⟨fn, tmps, assign, body, hy, hR⟩ := HY.out pre ⟨(c, b), hc0, hlt, hb'⟩ w2 HJ2.out hlen
        dsimp only [rcs] at hy
        have HX := Lib.hid (chn_snoc (x := ⟨(c, b), hc0, hlt, hb'⟩) HC.out rfl (fun t t1 t2 => HA.out b hend t t1 t2))
        have HE := Lib.hid (show max a b = b from by have := chn_le HC.out; omega)
        have HR := Lib.hid hR
        clear hR HN HA HC HJ2 HY HM
        have hge : ¬ x < 0 → b ≤ x := fun h => hend.resolve_left h
        clear hend
        by_cases hneg : x < 0
        all_goals
          try replace hge := hge hneg
          gi_wp2
          refine HR.out.mono ?_
          rintro e W3 (⟨rfl, hJ3, hk3⟩ | ⟨rfl, hJx3⟩)
          · have H3 := Lib.hid hJ3
            clear hJ3 hk3
            gi_wp2
            try rw [noGoto_on]
            go_end0
            exact ⟨⟨_, rfl⟩, .inl ⟨_, by rw [HE.out]; exact HX.out, H3.out⟩⟩
          · have H3 := Lib.hid hJx3
            clear hJx3
            gi_wp2
            try rw [noGoto_on]
            go_end0
            exact ⟨⟨_, rfl⟩, .inr ⟨_, ⟨b, HX.out, hb'⟩, H3.out⟩⟩
      · have hx0 : ¬ x < 0 := fun h => hend (.inl h)
        have hxb : x < b := by
          have : ¬ b ≤ x := fun h => hend (.inr h)
          omega
        have hcx := HN.out (by omega)
        obtain ⟨fn, tmps, assign, body, hy, hR⟩ := HY.out pre ⟨(c, x), hc0, hcx, by omega⟩ w2 HJ2.out hlen
        dsimp only [rcs] at hy
        have HX := Lib.hid (chn_snoc (x := ⟨(c, x), hc0, hcx, by omega⟩) HC.out rfl (fun t t1 t2 => HA.out x (.inr (Int.le_refl _)) t t1 t2))
        have HE := Lib.hid (show x ≤ max a b by omega)
        have HR := Lib.hid hR
        clear hR HN HA HC HJ2 HY HM
        have hx1 : 0 ≤ x := by omega
        gi_wp2
        refine HR.out.mono ?_
        rintro e W3 (⟨rfl, hJ3, hk3⟩ | ⟨rfl, hJx3⟩)
        · have H3 := Lib.hid hJ3
          have H4 := Lib.hid (kept_t HK2.out hk3)
          clear hJ3 hk3 HK2 HR
          gi_wp2
          go_roundw
          case rel => exact ⟨_, x, rfl, hx1, by omega, HE, HX, H4, H3⟩
          case measure => simp [intOf]; omega
        · have H3 := Lib.hid hJx3
          clear hJx3
          gi_wp2
          try rw [noGoto_on]
          go_end0
          exact ⟨⟨_, rfl⟩, .inr ⟨_, ⟨x, HX.out, by omega⟩, H3.out⟩⟩
    · have HE := Lib.hid (show max a b = c from by have := HM.out; have := chn_le HC.out; omega)
      clear NX NG AS HPr HM HS
      gi_wp2
      try rw [noGoto_on]
      go_end0
      exact ⟨⟨_, rfl⟩, .inl ⟨_, by rw [HE.out]; exact HC.out, HI.out⟩⟩
theorem runs_stops (n : Nat) (hn : 1 ≤ n) (T : Nat → Prop) (B h b1 b2 b3 : Nat) (F : Nat → Prop) (wo ga lim a b : Int) (S : List Rd) (w : World)
    (hp : PSF w B h F wo ga S) (hs : Sorted S) (hr : ∀ x ∈ S, rightB x = true) (hm : mayB wo ga = true) (hL : S.length ≤ 1000)
    (ha : 0 ≤ a) (ha' : a ≤ 1048576) (hb : 0 ≤ b) (hb' : b ≤ 1048576) (c1 : Lies w b1 3 #[.int .i64 a]) (c2 : Lies w b2 3 #[.int .i64 b]) (c3 : Lies w b3 40 #[.pointer (some ⟨h, 0, none⟩)])
    (hT : ∀ k, T k → ¬ F k ∧ k ≠ b1 ∧ k ≠ b2 ∧ k ≠ b3) :
    SeqStopsK Fence.wide n Try.prog 49 #[.pointer (some ⟨b1, 0, none⟩), .pointer (some ⟨b2, 0, none⟩), .pointer (some ⟨b3, 0, none⟩)] rcs (Kept T w.heap.size)
      (fun xs => Chn (exm wo ga lim S) a xs (max a b)) (fun pre => ∃ c, Chn (exm wo ga lim S) a pre c ∧ c ≤ 1048576) 1048576 w := fun l J Jx W hW hJ _ hY h0 =>
  runs_in n hn T w.heap.size l B h b1 b2 b3 F wo ga lim a b S J Jx W (face.keep hp hW) hs hr hm hL ha ha' hb hb' (c1.below hW c1.lt) (c2.below hW c2.lt) (c3.below hW c3.lt) hT
    (fun k hk => by
      rcases hk with hk | rfl | rfl | rfl
      · exact (face.foot hp hk).2
      · exact c1.lt
      · exact c2.lt
      · exact c3.lt) hJ hY h0
end Ex
end Go.Proofs.Ytfmnbmjfkplieaa
