/- Walks over the document's answer of layer 16: whether a list may be a book's; another state. No condition but those written. -/
import Derived.Test.YtpkniomjohjbiaaOr2
namespace Go.Proofs.Ytpkniomjohjbiaa
open Go.RowKit

namespace Or
theorem right_bad {l : List Od} {k : Nat} {x : Od} (hx : l[k]? = some x) (hb : okB k x = false) : rightB l = false := by
  cases h : rightB l with
  | false => rfl
  | true =>
    have := (rightB_iff.1 h).ok k x hx
    rw [hb] at this
    cases this
theorem right_long {l : List Od} (h : 64 < l.length) : rightB l = false := by
  cases e : rightB l with
  | false => rfl
  | true =>
    have := (rightB_iff.1 e).len
    omega
def Oks (l : List Od) (k : Nat) : Prop := ∀ j x, j < k → l[j]? = some x → okB j x = true
theorem oks_zero (l : List Od) : Oks l 0 := fun j x hj => by omega
theorem oks_next {l : List Od} {k : Nat} {x : Od} (h : Oks l k) (hx : l[k]? = some x) (hb : okB k x = true) : Oks l (k + 1) := fun j y hj hy => by
  by_cases hk : j < k
  · exact h j y hk hy
  · obtain rfl : j = k := by omega
    rw [hx] at hy
    cases hy
    exact hb
theorem right_all {l : List Od} (hl : l.length ≤ 64) (h : Oks l l.length) : rightB l = true :=
  rightB_iff.2 ⟨hl, fun i x hx => h i x (List.getElem?_eq_some_iff.1 hx).1 hx⟩
set_option maxRecDepth 100000 in
set_option maxHeartbeats 8000000 in
theorem r16right_any (p : Option Addr) (n c : Nat) (l : List Od) (w : World) (h : Rw 4 ocells w p n l) (hn : n ≤ 9223372036854775807) :
    Calls Try.prog 18 #[.slice p n c] w fun e w' => e = .returned (.bool (rightB l)) ∧ Below w.heap.size w w' := by
  have hl := h.1
  by_cases h64 : 64 < n
  · have HE := Lib.hid (right_long (l := l) (by omega))
    have t0 : decide (((n : Nat) : Int) > 64) = true := by simp; omega
    have t1 : ((n : Nat) : Int) ≤ 9223372036854775807 := by omega
    clear h hl hn h64
    go_enter Try.func18, Try.ntmps18
    go_wp2
    go_ret
    exact ⟨by rw [HE.out]; rfl, Below.refl _ _⟩
  have t0 : decide (((n : Nat) : Int) > 64) = false := by simp; omega
  have t1 : ((n : Nat) : Int) ≤ 64 := by omega
  have H := Lib.hid h
  have HN := Lib.hid hl
  have H64 := Lib.hid h64
  have B0 := Lib.hid (Below.refl w.heap.size w)
  clear h hl hn h64
  go_enter Try.func18, Try.ntmps18
  go_wp2
  go_loopw [3] (fun i wr => ∃ k : Nat, k ≤ n ∧ i = .int .i64 k ∧ Hid (Oks l k) ∧ Hid (Below w.heap.size w wr)) (fun i _ => n - (RowKit.intOf i).toNat)
  case atStart => exact ⟨0, Nat.zero_le _, rfl, Lib.hid (oks_zero l), B0⟩
  case round =>
    obtain ⟨k, hk, rfl, KO, BR⟩ := hrel
    by_cases hlt : k < n
    · have hk3 : (k : Int) < (n : Int) := by omega
      obtain ⟨y, hy⟩ : ∃ y, l[k]? = some y := ⟨_, List.getElem?_eq_getElem (by rw [HN.out]; exact hlt)⟩
      obtain ⟨b, o, rfl, e0, e1, e2, e3⟩ := od_at (H.out.keep ocells_len BR.out) hy
      have HK := Lib.hid (fun hb => oks_next KO.out hy hb)
      have HX := Lib.hid (fun hb => right_bad hy hb)
      have HO := Lib.hid (okB_iff (i := k) (x := y))
      have BA := Lib.hid (BR.out.alloc BR.out.size (.cells (ocells y).toArray 40))
      obtain ⟨ka, kb, kc, kd⟩ := y
      simp only [ocells] at HK HX e0 e1 e2 e3 BA
      clear hy
      cases hb : okB k ⟨ka, kb, kc, kd⟩ with
      | true =>
        obtain ⟨q1, q2, q3, q4⟩ := HO.out.1 hb
        obtain ⟨⟨q5, q6⟩, q7, q8⟩ := wantB_iff.1 q2
        simp only at q1 q3 q4 q5 q6 q7 q8
        have KN := Lib.hid (HK.out hb)
        have u0 : (ka != (k : Int) + 1) = false := by simp [q1]
        have u1 : decide (kb < 1) = false := by simp; omega
        have u2 : decide (16 < kb) = false := by simp; omega
        have u3 : decide (kc < 1) = false := by simp; omega
        have u4 : decide (1048576 < kc) = false := by simp; omega
        have u5 : decide (kd < 0) = false := by simp; omega
        have u6 : decide (2 < kd) = false := by simp; omega
        clear hb q1 q2 q3 q4 q5 q6 q7 q8 HO HX HK
        go_wp2
        go_roundw
        case rel => exact ⟨k + 1, by omega, by go_num, KN, BA⟩
        case measure => simp [RowKit.intOf]; omega
      | false =>
        have HE := Lib.hid (HX.out hb)
        have hor : ka ≠ (k : Int) + 1 ∨ kb < 1 ∨ 16 < kb ∨ kc < 1 ∨ 1048576 < kc ∨ kd < 0 ∨ 2 < kd := by
          have h1 : ¬ _ := mt HO.out.2 (by rw [hb]; exact Bool.false_ne_true)
          rw [wantB_iff] at h1
          simp only at h1
          omega
        clear hb HO HX HK
        by_cases c0 : ka = (k : Int) + 1
        case neg =>
          have u0 : (ka != (k : Int) + 1) = true := by simp [c0]
          clear hor c0
          go_wp2
          go_ret
          exact ⟨by rw [HE.out]; rfl, BA.out⟩
        have u0 : (ka != (k : Int) + 1) = false := by simp [c0]
        by_cases c1 : kb < 1
        case pos =>
          have u1 : decide (kb < 1) = true := decide_eq_true c1
          clear hor c0 c1
          go_wp2
          go_ret
          exact ⟨by rw [HE.out]; rfl, BA.out⟩
        have u1 : decide (kb < 1) = false := decide_eq_false c1
        by_cases c2 : 16 < kb
        case pos =>
          have u2 : decide (16 < kb) = true := decide_eq_true c2
          clear hor c0 c1 c2
          go_wp2
          go_ret
          exact ⟨by rw [HE.out]; rfl, BA.out⟩
        have u2 : decide (16 < kb) = false := decide_eq_false c2
        by_cases c3 : kc < 1
        case pos =>
          have u3 : decide (kc < 1) = true := decide_eq_true c3
          clear hor c0 c1 c2 c3
          go_wp2
          go_ret
          exact ⟨by rw [HE.out]; rfl, BA.out⟩
        have u3 : decide (kc < 1) = false := decide_eq_false c3
        by_cases c4 : 1048576 < kc
        case pos =>
          have u4 : decide (1048576 < kc) = true := decide_eq_true c4
          clear hor c0 c1 c2 c3 c4
          go_wp2
          go_ret
          exact ⟨by rw [HE.out]; rfl, BA.out⟩
        have u4 : decide (1048576 < kc) = false := decide_eq_false c4
        by_cases c5 : kd < 0
        case pos =>
          have u5 : decide (kd < 0) = true := decide_eq_true c5
          clear hor c0 c1 c2 c3 c4 c5
          go_wp2
          go_ret
          exact ⟨by rw [HE.out]; rfl, BA.out⟩
        have u5 : decide (kd < 0) = false := decide_eq_false c5
        by_cases c6 : 2 < kd
        case pos =>
          have u6 : decide (2 < kd) = true := decide_eq_true c6
          clear hor c0 c1 c2 c3 c4 c5 c6
          go_wp2
          go_ret
          exact ⟨by rw [HE.out]; rfl, BA.out⟩
        have u6 : decide (2 < kd) = false := decide_eq_false c6
        omega
    · obtain rfl : k = n := by omega
      have HE := Lib.hid (right_all (l := l) (by have := H64.out; rw [HN.out]; omega) (by rw [HN.out]; exact KO.out))
      go_wp2
      go_ret
      exact ⟨by rw [HE.out]; rfl, BR.out⟩
/-- Behind a change. -/
def ChEnd (w : World) (p : Option Addr) (n : Nat) (r : List Od × Int) (e : Ending) (w' : World) : Prop := ∃ q m d, e = .returned (.tuple #[.slice q m d, .int .i64 r.2]) ∧ Told w p n r.1 q m d w'
theorem map_next {f : Od → Od} {l : List Od} {k : Nat} {x : Od} (hx : l[k]? = some x) : (l.take (k + 1)).map f = (l.take k).map f ++ [f x] := by
  rw [List.take_add_one, hx, List.map_append]
  rfl
set_option maxRecDepth 100000 in
set_option maxHeartbeats 8000000 in
theorem r16change_none (p : Option Addr) (n c : Nat) (l : List Od) (id frm to : Int) (w : World) (h : Rw 4 ocells w p n l) (hc : n ≤ c) (hn : n ≤ 1000000) (hg : getF id l = none) :
    Calls Try.prog 9 #[.slice p n c, .int .i64 id, .int .i64 frm, .int .i64 to] w (ChEnd w p n (l, 5)) := by
  have CO := Lib.hid (fun W (hW : Below w.heap.size w W) => r16order_any p n c l id W (h.keep ocells_len hW) hn)
  have TS := Lib.hid (fun W (hW : Below w.heap.size w W) => told_same (c := c) h hc hW)
  unfold orderF at CO
  rw [hg] at CO
  simp only [oval, od0] at CO
  unfold ChEnd
  clear h hc hn hg
  go_enter Try.func9, Try.ntmps9
  go_wp2_with fail
  refine (CO.out _ (Below.refl _ _)).mono ?_
  rintro e w2 ⟨rfl, hb⟩
  have B2 := Lib.hid (hb.alloc hb.size (.cells #[.int .i64 0, .int .i64 0, .int .i64 0, .int .i64 0] 40))
  clear hb CO
  go_wp2
  go_ret2
  exact ⟨p, n, c, rfl, TS.out _ B2.out⟩
set_option maxRecDepth 100000 in
set_option maxHeartbeats 8000000 in
theorem r16change_other (p : Option Addr) (n c : Nat) (l : List Od) (id frm to : Int) (x : Od) (w : World) (h : Rw 4 ocells w p n l) (hc : n ≤ c) (hn : n ≤ 1000000) (hg : getF id l = some x) (hs : ¬ x.state = frm) :
    Calls Try.prog 9 #[.slice p n c, .int .i64 id, .int .i64 frm, .int .i64 to] w (ChEnd w p n (l, 8)) := by
  have CO := Lib.hid (fun W (hW : Below w.heap.size w W) => r16order_any p n c l id W (h.keep ocells_len hW) hn)
  have TS := Lib.hid (fun W (hW : Below w.heap.size w W) => told_same (c := c) h hc hW)
  unfold orderF at CO
  rw [hg] at CO
  obtain ⟨ka, kb, kc, kd⟩ := x
  simp only [oval] at CO hs
  unfold ChEnd
  have t0 : (kd != frm) = true := by simp [hs]
  clear h hc hn hg hs
  go_enter Try.func9, Try.ntmps9
  go_wp2_with fail
  refine (CO.out _ (Below.refl _ _)).mono ?_
  rintro e w2 ⟨rfl, hb⟩
  have B2 := Lib.hid (hb.alloc hb.size (.cells #[.int .i64 ka, .int .i64 kb, .int .i64 kc, .int .i64 kd] 40))
  clear hb CO
  go_wp2
  go_ret2
  exact ⟨p, n, c, rfl, TS.out _ B2.out⟩
set_option maxRecDepth 100000 in
set_option maxHeartbeats 8000000 in
theorem r16change_yes (p : Option Addr) (n c : Nat) (l : List Od) (id frm to : Int) (x : Od) (w : World) (h : Rw 4 ocells w p n l) (hn : n ≤ 1000000) (hg : getF id l = some x) (hs : x.state = frm) :
    Calls Try.prog 9 #[.slice p n c, .int .i64 id, .int .i64 frm, .int .i64 to] w (ChEnd w p n (l.map (turned id to), 0)) := by
  have CO := Lib.hid (fun W (hW : Below w.heap.size w W) => r16order_any p n c l id W (h.keep ocells_len hW) hn)
  unfold orderF at CO
  rw [hg] at CO
  obtain ⟨i0, hi0, hz0, hz1, hz2⟩ := info_od
  have H := Lib.hid h
  have HN := Lib.hid h.1
  have hn' : (n : Int) ≤ 1000000 := by omega
  obtain ⟨xa, xb, xc, xd⟩ := x
  simp only [oval] at CO hs
  unfold ChEnd
  have t0 : (xd != frm) = false := by simp [hs]
  clear h hg hs
  go_enter Try.func9, Try.ntmps9
  go_wp2_with fail
  refine (CO.out _ (Below.refl _ _)).mono ?_
  rintro e w2 ⟨rfl, hb⟩
  have B2 := Lib.hid (hb.alloc hb.size (.cells #[.int .i64 xa, .int .i64 xb, .int .i64 xc, .int .i64 xd] 40))
  clear hb CO
  go_wp2_with fail
  go_loopw [12, 13] (fun v i wr => ∃ (k : Nat) (q : Option Addr) (d : Nat), k ≤ n ∧ v = .slice q k d ∧ i = .int .i64 k ∧ Hid (wr.ownsRow w.heap.size 40 4 (.slice q k d) k (((l.take k).map (turned id to)).flatMap ocells)) ∧ Hid (Below w.heap.size w wr)) (fun _ i _ => n - (RowKit.intOf i).toNat)
  case atStart => exact ⟨0, none, 0, Nat.zero_le _, rfl, rfl, Lib.hid (by simpa using World.ownsRow_nil _ w.heap.size 40 4), B2⟩
  case round =>
    clear B2
    obtain ⟨k, q, d, hk, rfl, rfl, OR, BR⟩ := hrel
    by_cases hlt : k < n
    · have hk3 : (k : Int) < (n : Int) := by omega
      obtain ⟨y, hy⟩ : ∃ y, l[k]? = some y := ⟨_, List.getElem?_eq_getElem (by rw [HN.out]; exact hlt)⟩
      obtain ⟨b, o, rfl, e0, e1, e2, e3⟩ := od_at (H.out.keep ocells_len BR.out) hy
      have MN := Lib.hid (map_next (f := turned id to) hy)
      obtain ⟨ka, kb, kc, kd⟩ := y
      simp only at e0 e1 e2 e3
      clear hy
      have hsr := BR.out.size
      by_cases hid : ka = id
      · have t1 : (ka == id) = true := by simp [hid]
        have TU : turned id to ⟨ka, kb, kc, kd⟩ = (⟨ka, kb, kc, to⟩ : Od) := by unfold turned; rw [if_pos hid]
        rw [TU] at MN
        have RW1 : Hid (Rw 4 ocells ((wr.alloc (.cells #[.int .i64 ka, .int .i64 kb, .int .i64 kc, .int .i64 to] 40)).alloc (.cells #[.int .i64 ka, .int .i64 kb, .int .i64 kc, .int .i64 to] 40)) (some ⟨wr.heap.size + 1, 0, none⟩) 1 [⟨ka, kb, kc, to⟩]) := Lib.hid (by
          have h1 := Ra.rw_one (k := 4) (enc := ocells) (wr.alloc (.cells #[.int .i64 ka, .int .i64 kb, .int .i64 kc, .int .i64 to] 40)) 40 (⟨ka, kb, kc, to⟩ : Od)
          rwa [show (wr.alloc (.cells #[.int .i64 ka, .int .i64 kb, .int .i64 kc, .int .i64 to] 40)).heap.size = wr.heap.size + 1 by simp] at h1)
        clear hid TU
        go_wp2_with (at_builtin; refine Ra.wpList_app ocells_len ocells_one Try.underlying26 hi0 hz0 hz1 hz2 rfl (by decide) rfl _ _ rfl ((OR.out.alloc (.cells #[.int .i64 ka, .int .i64 kb, .int .i64 kc, .int .i64 to] 40)).alloc _) rfl RW1.out rfl (by unfold maxLen; omega) (by omega) (by simp; omega) ?_; intro q2 d2 w3 hown2 hg2 _; have B3 := Lib.hid (((BR.out.alloc hsr (.cells #[.int .i64 ka, .int .i64 kb, .int .i64 kc, .int .i64 to] 40)).alloc (by simp; omega) (.cells (ocells (⟨ka, kb, kc, to⟩ : Od)).toArray 40)).grown hg2 (by simp; omega) (fun k hk => (own_lt OR.out hk).1)); have O3 := Lib.hid hown2; clear hown2 hg2)
        try go_wp2
        go_roundw
        case rel => exact ⟨k + 1, q2, d2, by omega, rfl, by go_num, by rw [MN.out]; exact O3, B3⟩
        case measure => simp [RowKit.intOf]; omega
      · have t1 : (ka == id) = false := by simp [hid]
        have TU : turned id to ⟨ka, kb, kc, kd⟩ = (⟨ka, kb, kc, kd⟩ : Od) := by unfold turned; rw [if_neg hid]
        rw [TU] at MN
        have RW1 : Hid (Rw 4 ocells ((wr.alloc (.cells #[.int .i64 ka, .int .i64 kb, .int .i64 kc, .int .i64 kd] 40)).alloc (.cells #[.int .i64 ka, .int .i64 kb, .int .i64 kc, .int .i64 kd] 40)) (some ⟨wr.heap.size + 1, 0, none⟩) 1 [⟨ka, kb, kc, kd⟩]) := Lib.hid (by
          have h1 := Ra.rw_one (k := 4) (enc := ocells) (wr.alloc (.cells #[.int .i64 ka, .int .i64 kb, .int .i64 kc, .int .i64 kd] 40)) 40 (⟨ka, kb, kc, kd⟩ : Od)
          rwa [show (wr.alloc (.cells #[.int .i64 ka, .int .i64 kb, .int .i64 kc, .int .i64 kd] 40)).heap.size = wr.heap.size + 1 by simp] at h1)
        clear hid TU
        go_wp2_with (at_builtin; refine Ra.wpList_app ocells_len ocells_one Try.underlying26 hi0 hz0 hz1 hz2 rfl (by decide) rfl _ _ rfl ((OR.out.alloc (.cells #[.int .i64 ka, .int .i64 kb, .int .i64 kc, .int .i64 kd] 40)).alloc _) rfl RW1.out rfl (by unfold maxLen; omega) (by omega) (by simp; omega) ?_; intro q2 d2 w3 hown2 hg2 _; have B3 := Lib.hid (((BR.out.alloc hsr (.cells #[.int .i64 ka, .int .i64 kb, .int .i64 kc, .int .i64 kd] 40)).alloc (by simp; omega) (.cells (ocells (⟨ka, kb, kc, kd⟩ : Od)).toArray 40)).grown hg2 (by simp; omega) (fun k hk => (own_lt OR.out hk).1)); have O3 := Lib.hid hown2; clear hown2 hg2)
        try go_wp2
        go_roundw
        case rel => exact ⟨k + 1, q2, d2, by omega, rfl, by go_num, by rw [MN.out]; exact O3, B3⟩
        case measure => simp [RowKit.intOf]; omega
    · obtain rfl : k = n := by omega
      have O4 := OR.out
      rw [List.take_of_length_le (by rw [HN.out]; exact Nat.le_refl _)] at O4
      have T4 := Lib.hid (show Told w p k (l.map (turned id to)) q k d wr from ⟨own_od O4 (by rw [List.length_map]; exact HN.out), own_cap O4, fun i hi => .inr (own_bq O4 i hi), BR.out⟩)
      clear O4
      go_wp2
      go_ret2
      exact ⟨q, k, d, rfl, T4.out⟩
theorem r16change_any (p : Option Addr) (n c : Nat) (l : List Od) (id frm to : Int) (w : World) (h : Rw 4 ocells w p n l) (hc : n ≤ c) (hn : n ≤ 1000000) :
    Calls Try.prog 9 #[.slice p n c, .int .i64 id, .int .i64 frm, .int .i64 to] w (ChEnd w p n (changeF l id frm to)) := by
  unfold changeF
  cases hg : getF id l with
  | none => exact r16change_none p n c l id frm to w h hc hn hg
  | some x =>
    by_cases hs : x.state = frm
    · simp only
      rw [if_pos hs]
      exact r16change_yes p n c l id frm to x w h hn hg hs
    · simp only
      rw [if_neg hs]
      exact r16change_other p n c l id frm to x w h hc hn hg hs
end Or
end Go.Proofs.Ytpkniomjohjbiaa
