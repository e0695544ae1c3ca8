/- Walks over the document's writer of layer 4 (hoarfrostref04). No condition but those written. -/
import Derived.Test.YtbahilakfgbgpaaDoorOb1
namespace Go.Proofs.YtbahilakfgbgpaaDoor
open Go.RowKit

namespace Ob
/-- The document's writer. -/
def RW (w : World) (B g : Nat) (v : Value) (s : Option (List Nat)) : Prop :=
  B ≤ g ∧ match s with
  | some l => Lies w g 49 #[v, .int .i64 0] ∧ w.ownsRow B 5 1 v l.length (bys l) ∧ ∀ x ∈ l, x < 256
  | none => Lies w g 49 #[v, .int .i64 1] ∧ ∃ n xs, w.ownsRow B 5 1 v n xs
theorem RW.turn {w w' : World} {B g : Nat} {v : Value} {s : Option (List Nat)} {S : Nat → Prop} (h : RW w B g v s) (ht : Turn S w w') (hs : ∀ k, Foot g v k → ¬ S k) : RW w' B g v s := by
  refine ⟨h.1, ?_⟩
  have h2 := h.2
  match s, h2 with
  | none, ⟨h2, n, xs, h3⟩ => exact ⟨h2.turn ht (hs g (.inl rfl)), n, xs, own_turn h3 ht (fun k hk => hs k (.inr hk))⟩
  | some l, h2 => exact ⟨h2.1.turn ht (hs g (.inl rfl)), own_turn h2.2.1 ht (fun k hk => hs k (.inr hk)), h2.2.2⟩
theorem RW.foot {w : World} {B g : Nat} {v : Value} {s : Option (List Nat)} (h : RW w B g v s) {k : Nat} (hk : Foot g v k) : B ≤ k ∧ k < w.heap.size := by
  have h2 := h.2
  match s, h2 with
  | none, ⟨h2, n, xs, h3⟩ =>
    rcases hk with rfl | hk
    · exact ⟨h.1, h2.lt⟩
    · exact own_lt h3 hk
  | some l, h2 =>
    rcases hk with rfl | hk
    · exact ⟨h.1, h2.1.lt⟩
    · exact own_lt h2.2.1 hk
/-- What the document's number has behind some rounds: the lowest bytes are there, k are still to come. -/
def NStep (w : World) (m n k q : Nat) (wr : World) : Prop :=
  q = n / 256 ^ (m - k) ∧ wr.ownsRow w.heap.size 5 1 (.slice (some ⟨w.heap.size, 0, none⟩) m m) m (bys (List.replicate k 0 ++ Oc.be (m - k) n)) ∧ Below w.heap.size w wr
theorem nstep_start (w : World) (m n : Nat) (hm : m ≤ 8) : NStep w m n m n (w.alloc (.cells (madeCells #[.int .u8 0] m) 5)) := by
  refine ⟨by simp, ?_, (Below.refl _ w).alloc (Nat.le_refl _) _⟩
  have h := World.ownsRow_lit (base := w.heap.size) (e := 5) (size := 1) w (madeCells #[.int .u8 0] m) m (Nat.le_refl _) (by unfold maxLen; omega) (by rw [size_madeCells, Nat.mul_one])
  rw [made_bytes] at h
  simpa [Oc.be_zero] using h
theorem nstep_next {w wr : World} {m n j q : Nat} (hj : j + 1 ≤ m) (h : NStep w m n (j + 1) q wr) :
    NStep w m n j (q / 256) (wr.setCell ⟨w.heap.size, j, none⟩ (.int .u8 ((q % 256 : Nat) : Int))) := by
  obtain ⟨hq, ho, hb⟩ := h
  have e : m - j = m - (j + 1) + 1 := by omega
  refine ⟨?_, ?_, hb.setCell (p := ⟨w.heap.size, j, none⟩) (Nat.le_refl _) _⟩
  · rw [hq, e, Nat.div_div_eq_div_mul, Nat.pow_succ]
  · have h2 := own_store ho j (q % 256)
    have e2 : (List.replicate (j + 1) 0 ++ Oc.be (m - (j + 1)) n).set j (q % 256) = List.replicate j 0 ++ Oc.be (m - j) n := by
      rw [e, Oc.be_succ, ← hq, List.replicate_succ']
      simp
    rwa [e2] at h2
theorem rnum_no (n : Int) (m : Int) (w : World) (hm : ¬ (1 ≤ m ∧ m ≤ 8)) :
    Calls Tryd.prog 40 #[.int .u64 n, .int .i64 m] w fun e w' => e = .returned (.tuple #[.slice none 0 0, .bool false]) ∧ w = w' := by
  by_cases h1 : m < 1
  · clear hm
    go_enter Tryd.func40, Tryd.ntmps40
    go_wp2
    go_ret2
    exact ⟨rfl, rfl⟩
  · have h2 : 8 < m := by omega
    clear hm
    go_enter Tryd.func40, Tryd.ntmps40
    go_wp2
    go_ret2
    exact ⟨rfl, rfl⟩
set_option maxRecDepth 100000 in
set_option maxHeartbeats 1000000 in
theorem rnum_yes (n m : Nat) (w : World) (h1 : 1 ≤ m) (h8 : m ≤ 8) (hn : n < 18446744073709551616) :
    Calls Tryd.prog 40 #[.int .u64 (n : Int), .int .i64 (m : Int)] w fun e w' => ∃ q : Nat, e = .returned (.tuple #[.slice (some ⟨w.heap.size, 0, none⟩) m m, .bool ((q : Int) == 0)]) ∧ NStep w m n 0 q w' := by
  have hmk := run_make_row' (P := Tryd.prog) 23 5 (.int .u8 0) 1 Tryd.underlying23 info5 rfl .i64 .i64 m (by omega) (by omega) w
  have S0 := Lib.hid (nstep_start w m n h8)
  have HN := Lib.hid hn
  clear hn
  go_enter Tryd.func40, Tryd.ntmps40
  go_wp2
  generalize w.alloc (.cells (madeCells #[.int .u8 0] m) 5) = w0 at *
  clear hmk
  go_loopw [7, 8] (fun u i wr => ∃ k q : Nat, k ≤ m ∧ i = .int .i64 ((k : Int) - 1) ∧ u = .int .u64 (q : Int) ∧ Hid (q < 18446744073709551616) ∧ NStep w m n k q wr) (fun _ i _ => (RowKit.intOf i + 1).toNat)
  case atStart => exact ⟨m, n, Nat.le_refl _, rfl, rfl, HN, S0.out⟩
  case round =>
    obtain ⟨k, q, hk, rfl, rfl, hq, hst⟩ := hrel
    clear S0
    rcases Nat.eq_zero_or_pos k with rfl | hk0
    · have HS := Lib.hid hst
      clear hst
      go_wp2
      go_ret2
      exact ⟨q, rfl, HS.out⟩
    · obtain ⟨j, rfl⟩ : ∃ j, k = j + 1 := ⟨k - 1, by omega⟩
      have e1 : (((j + 1 : Nat) : Int) - 1) = (j : Int) := by omega
      rw [e1]
      have hlt : w.heap.size < wr.heap.size := (hst.2.1.lt w.heap.size rfl).2
      have NX := Lib.hid (nstep_next hk hst)
      have hL : (List.replicate (j + 1) 0 ++ Oc.be (m - (j + 1)) n).length = m := by simp [Oc.be_length]; omega
      have hcell := own_cell hst.2.1 hL (i := j) (by omega)
      have hfr := hst.2.1.frozenAt j
      have q1 : (q : Int) % 256 = ((q % 256 : Nat) : Int) := by omega
      have q2 : q % 256 < 256 := by omega
      have q3 : (q : Int) / 256 = ((q / 256 : Nat) : Int) := by omega
      have q4 := Lib.hid (show q / 256 < 18446744073709551616 by have := hq.out; omega)
      generalize (List.replicate (j + 1) 0 ++ Oc.be (m - (j + 1)) n).getD j 0 = y at *
      have q5 : ((q / 256 : Nat) : Int) < 18446744073709551616 := by have := hq.out; omega
      generalize q % 256 = r at *
      generalize q / 256 = s at *
      clear hst hL e1
      go_wp2
      go_roundw
      case rel => exact ⟨j, s, by omega, rfl, rfl, q4, NX.out⟩
      case measure => simp [RowKit.intOf]
/-- What a call of the document's writer leaves. -/
def RWrote (w : World) (B g : Nat) (v : Value) (s : Option (List Nat)) (w' : World) : Prop :=
  ∃ v', RW w' B g v' s ∧ Turn (Foot g v) w w' ∧ ∀ b, v'.ownBlock = some b → v.ownBlock = some b ∨ w.heap.size ≤ b
theorem rwrote_refl {w : World} {B g : Nat} {v : Value} {s : Option (List Nat)} (h : RW w B g v s) : RWrote w B g v s w := ⟨v, h, Turn.refl _ _, fun _ h => .inl h⟩
theorem rwrote_trans {w w1 w2 : World} {B g : Nat} {v v1 : Value} {s : Option (List Nat)} (ht : Turn (Foot g v) w w1) (hv : ∀ b, v1.ownBlock = some b → v.ownBlock = some b ∨ w.heap.size ≤ b) (h : RWrote w1 B g v1 s w2) : RWrote w B g v s w2 := by
  obtain ⟨v2, hp, ht2, hv2⟩ := h
  have hs := ht.size
  refine ⟨v2, hp, ht.trans ht2 (fun i hi => ?_), fun b hb => ?_⟩
  · rcases hi with rfl | hi
    · exact .inl (.inl rfl)
    · exact (hv i hi).elim (fun h => .inl (.inr h)) .inr
  · rcases hv2 b hb with h | h
    · exact hv b h
    · right
      omega
theorem rwrote_app {w w1 : World} {B g n : Nat} {v v1 : Value} {l b : List Nat} (hB : B ≤ g) (hb : Lies w g 49 #[v, .int .i64 0]) (ho : w.ownsRow B 5 1 v l.length (bys l)) (hx : ∀ x ∈ l, x < 256) (hxb : ∀ x ∈ b, x < 256) (hn : b.length = n)
    (hown : w1.ownsRow B 5 1 v1 (l.length + n) (bys l ++ bys b)) (hg : w.grownBy w1 v.ownBlock) (hat : v1.ownBlock = v.ownBlock ∨ v1.ownBlock = some w.heap.size) : RWrote w B g v (some (l ++ b)) (w1.setCell ⟨g, 0, none⟩ v1) := by
  have lg := hb.lt
  have fb := hb.grown hg (Ne.symm (own_blk_ne ho hb (by decide)))
  refine ⟨v1, ⟨hB, by simpa using fb.set_ 0 v1, ?_, Oc.mem_app hx hxb⟩, ?_, ?_⟩
  · subst hn
    rw [List.length_append, bys_append]
    refine own_turn hown ((Turn.refl (fun k => k = g) w1).setCell (p := ⟨g, 0, none⟩) (.inl rfl) _) (fun k hk e => ?_)
    subst e
    exact own_blk_ne hown fb (by decide) hk
  · exact ((Turn.refl (Foot g v) w).grown hg (fun k hk => .inl (.inr hk))).setCell (p := ⟨g, 0, none⟩) (.inl (.inl rfl)) _
  · intro k hk
    rcases hat with e | e
    · exact .inl (by rw [← e]; exact hk)
    · rw [e] at hk
      right
      have : w.heap.size = k := by simpa using hk
      omega
theorem rwrote_fail {w : World} {B g : Nat} {v : Value} {l : List Nat} (h : RW w B g v (some l)) : RWrote w B g v none (w.setCell ⟨g, 1, none⟩ (.int .i64 1)) := by
  obtain ⟨hB, hb, ho, _⟩ := h
  refine ⟨v, ⟨hB, by simpa using hb.set_ 1 (.int .i64 1), l.length, bys l, ?_⟩, (Turn.refl _ w).setCell (p := ⟨g, 1, none⟩) (.inl (.inl rfl)) _, fun b hb => .inl hb⟩
  refine own_turn ho ((Turn.refl (fun k => k = g) w).setCell (p := ⟨g, 1, none⟩) (.inl rfl) _) (fun k hk e => ?_)
  subst e
  exact own_blk_ne ho hb (by decide) hk
theorem rput_err (B g : Nat) (v : Value) (n m : Int) (w : World) (h : RW w B g v none) :
    Calls Tryd.prog 23 #[.pointer (some ⟨g, 0, none⟩), .int .u64 n, .int .i64 m] w fun e w' => e = .returned (.tuple #[]) ∧ w = w' := by
  have c1 : w.cell? ⟨g, 1, none⟩ = some (.int .i64 1) := h.2.1.cell 1
  clear h
  go_enter Tryd.func23, Tryd.ntmps23
  go_wp2
  refine bodyPost_ret (results_none rfl _ _ _) rfl ?_
  exact ⟨rfl, rfl⟩
set_option maxHeartbeats 1000000 in
theorem rput_size (B g : Nat) (v : Value) (l : List Nat) (n m : Int) (w : World) (h : RW w B g v (some l)) (hm : ¬ (1 ≤ m ∧ m ≤ 8)) :
    Calls Tryd.prog 23 #[.pointer (some ⟨g, 0, none⟩), .int .u64 n, .int .i64 m] w fun e w' => e = .returned (.tuple #[]) ∧ RWrote w B g v none w' := by
  have c1 : w.cell? ⟨g, 1, none⟩ = some (.int .i64 0) := h.2.1.cell 1
  have f1 := h.2.1.frozen 1
  have N := Lib.hid (rnum_no n m w hm)
  have F := Lib.hid (rwrote_fail h)
  clear h hm
  go_enter Tryd.func23, Tryd.ntmps23
  go_wp2_with fail
  refine N.out.mono ?_
  rintro e w' ⟨rfl, rfl⟩
  go_wp2
  refine bodyPost_ret (results_none rfl _ _ _) rfl ?_
  exact ⟨rfl, F.out⟩
theorem turn_below {w w1 : World} {B g : Nat} {v : Value} {s : Option (List Nat)} (h : RW w B g v s) (hb : Below w.heap.size w w1) : RW w1 B g v s ∧ Turn (Foot g v) w w1 :=
  have ht : Turn (fun _ => False) w w1 := Turn.of_below hb
  ⟨h.turn ht (fun _ _ hf => hf), Turn.of_below hb⟩
theorem nstep_done {w w1 : World} {m n q : Nat} (h : NStep w m n 0 q w1) : q = n / 256 ^ m ∧ At w1 (some ⟨w.heap.size, 0, none⟩) m (Oc.be m n) ∧ Below w.heap.size w w1 := by
  obtain ⟨hq, ho, hb⟩ := h
  have e : List.replicate 0 0 ++ Oc.be (m - 0) n = Oc.be m n := by simp
  rw [e] at ho
  obtain ⟨q', c, hv, _, hA⟩ := at_own (Oc.be_length m n) (Oc.be_lt m n) ho
  refine ⟨by simpa using hq, ?_, hb⟩
  injection hv with h1
  rw [h1]
  exact hA
set_option maxHeartbeats 1000000 in
theorem rput_big (B g : Nat) (v : Value) (l : List Nat) (n m : Nat) (w : World) (h : RW w B g v (some l)) (h1 : 1 ≤ m) (h8 : m ≤ 8) (hn : n < 18446744073709551616) (hf : ¬ n < 256 ^ m) :
    Calls Tryd.prog 23 #[.pointer (some ⟨g, 0, none⟩), .int .u64 (n : Int), .int .i64 (m : Int)] w fun e w' => e = .returned (.tuple #[]) ∧ RWrote w B g v none w' := by
  have c1 : w.cell? ⟨g, 1, none⟩ = some (.int .i64 0) := h.2.1.cell 1
  have N := Lib.hid (rnum_yes n m w h1 h8 hn)
  have H := Lib.hid h
  have HF := Lib.hid hf
  clear h hf hn
  go_enter Tryd.func23, Tryd.ntmps23
  go_wp2_with fail
  refine N.out.mono ?_
  rintro e w1 ⟨q, rfl, hst⟩
  obtain ⟨hq, hA, hb⟩ := nstep_done hst
  obtain ⟨hw, ht⟩ := turn_below H.out hb
  have hq0 : 0 < q := by rw [hq]; exact Nat.div_pos (by have := HF.out; omega) (Nat.pow_pos (by decide))
  have t1 : ((q : Int) == 0) = false := by simp; omega
  have d1 : w1.cell? ⟨g, 1, none⟩ = some (.int .i64 0) := hw.2.1.cell 1
  have f1 := hw.2.1.frozen 1
  have F := Lib.hid (rwrote_trans ht (fun _ h => .inl h) (rwrote_fail hw))
  clear hst hq hA hb hw ht c1
  go_wp2
  refine bodyPost_ret (results_none rfl _ _ _) rfl ?_
  exact ⟨rfl, F.out⟩
set_option maxHeartbeats 1000000 in
theorem rput_yes (B g : Nat) (v : Value) (l : List Nat) (n m : Nat) (w : World) (h : RW w B g v (some l)) (h1 : 1 ≤ m) (h8 : m ≤ 8) (hn : n < 18446744073709551616) (hf : n < 256 ^ m) (hl : l.length ≤ 1000000) :
    Calls Tryd.prog 23 #[.pointer (some ⟨g, 0, none⟩), .int .u64 (n : Int), .int .i64 (m : Int)] w fun e w' => e = .returned (.tuple #[]) ∧ RWrote w B g v (some (l ++ Oc.be m n)) w' := by
  have c1 : w.cell? ⟨g, 1, none⟩ = some (.int .i64 0) := h.2.1.cell 1
  have N := Lib.hid (rnum_yes n m w h1 h8 hn)
  have H := Lib.hid h
  have HF := Lib.hid hf
  clear h hf hn
  go_enter Tryd.func23, Tryd.ntmps23
  go_wp2_with fail
  refine N.out.mono ?_
  rintro e w1 ⟨q, rfl, hst⟩
  obtain ⟨hq, hA, hb⟩ := nstep_done hst
  obtain ⟨hw, ht⟩ := turn_below H.out hb
  obtain rfl : q = 0 := by rw [hq]; exact Nat.div_eq_of_lt HF.out
  have d0 : w1.cell? ⟨g, 0, none⟩ = some v := hw.2.1.cell 0
  have HA := Lib.hid hA
  have HW := Lib.hid hw
  have HT := Lib.hid ht
  have lg := HW.out.2.1.lt
  clear hst hq hA hb hw ht c1
  go_wp2_with (at_builtin; refine wpList_app rfl (.tmp 28) (.tmp 29) rfl B v _ _ rfl HW.out.2.2.1 _ m m _ rfl HA.out (by omega) (Nat.le_trans HW.out.1 (Nat.le_of_lt lg)) ?_; intro v2 w2 hown2 hg2 hat2; obtain ⟨q2, d2, rfl⟩ := own_slice hown2; have fb := HW.out.2.1.grown hg2 (Ne.symm (own_blk_ne HW.out.2.2.1 HW.out.2.1 (by decide))); have f0 := fb.frozen 0; have e0 : w2.cell? ⟨g, 0, none⟩ = some v := fb.cell 0; have HO2 := Lib.hid hown2; have HG2 := Lib.hid hg2; have HAT := Lib.hid hat2; clear hown2 hg2 hat2 fb)
  go_end0
  exact ⟨rfl, rwrote_trans HT.out (fun _ h => .inl h) (rwrote_app HW.out.1 HW.out.2.1 HW.out.2.2.1 HW.out.2.2.2 HA.out.2.1 (Oc.be_length m n) HO2.out HG2.out HAT.out)⟩
/-- Num of the document's writer. -/
theorem rput_any (B g : Nat) (v : Value) (s : Option (List Nat)) (n : Nat) (m : Int) (w : World) (h : RW w B g v s) (hn : n < 18446744073709551616) (hs : short s 1000000) :
    Calls Tryd.prog 23 #[.pointer (some ⟨g, 0, none⟩), .int .u64 (n : Int), .int .i64 m] w fun e w' => e = .returned (.tuple #[]) ∧ RWrote w B g v (Oc.wnum s n m) w' := by
  match s, h, hs with
  | none, h, _ => exact (rput_err B g v n m w h).mono fun e w' ⟨he, hw⟩ => ⟨he, hw ▸ rwrote_refl h⟩
  | some l, h, hs =>
    by_cases hm : 1 ≤ m ∧ m ≤ 8
    · obtain ⟨k, rfl⟩ : ∃ k : Nat, m = k := ⟨m.toNat, by omega⟩
      by_cases hf : n < 256 ^ k
      · rw [Oc.wnum_yes l (Oc.fit_mk hm.1 hm.2 (by simpa using hf))]
        exact rput_yes B g v l n k w h (by omega) (by omega) hn hf (hs l rfl)
      · rw [Oc.wnum_no l (Oc.fit_no2 (by simpa using hf))]
        exact rput_big B g v l n k w h (by omega) (by omega) hn hf
    · rw [Oc.wnum_no l (Oc.fit_no1 hm)]
      exact rput_size B g v l n m w h hm
theorem rint_any (B g : Nat) (v : Value) (s : Option (List Nat)) (i : Int) (n : Nat) (w : World) (h : RW w B g v s) (hi : IntKind.u64.wrap i = (n : Int)) (hn : n < 18446744073709551616) (hs : short s 1000000) :
    Calls Tryd.prog 24 #[.pointer (some ⟨g, 0, none⟩), .int .i64 i] w fun e w' => e = .returned (.tuple #[]) ∧ RWrote w B g v (Oc.wnum s n 8) w' := by
  have N := Lib.hid (rput_any B g v s n 8 w h hn hs)
  clear h hn
  go_enter Tryd.func24, Tryd.ntmps24
  go_wp2_with fail
  refine N.out.mono ?_
  rintro e w' ⟨rfl, hw⟩
  have HW := Lib.hid hw
  clear hw
  go_wp2
  go_end0
  exact ⟨rfl, HW.out⟩
set_option maxHeartbeats 1000000 in
theorem rrun_any (B g : Nat) (v : Value) (s : Option (List Nat)) (p : Option Addr) (n c : Nat) (b : List Nat) (w : World) (h : RW w B g v s) (hs : short s 900000) (hn : n ≤ 1000000) (hA : At w p n b) (hp : 0 < n → ∀ a, p = some a → ¬ Foot g v a.block) :
    Calls Tryd.prog 26 #[.pointer (some ⟨g, 0, none⟩), .slice p n c] w fun e w' => e = .returned (.tuple #[]) ∧ RWrote w B g v (Oc.wrun s b) w' := by
  have N := rput_any B g v s n 4 w h (by omega) (fun l hl => Nat.le_trans (hs l hl) (by decide))
  have hlb : b.length = n := hA.1
  have HA := Lib.hid hA
  have HP := Lib.hid hp
  have E : Hid (∀ w', RWrote w B g v (Oc.wnum s n 4) w' → (Oc.wrun s b = none ∧ RWrote w B g v none w') ∨ ∃ L, Hid (Oc.wrun s b = some (L ++ b)) ∧ L.length ≤ 900004 ∧ RWrote w B g v (some L) w') := by
    intro w' hw
    match s, hw with
    | none, hw => exact .inl ⟨rfl, hw⟩
    | some l, hw =>
      have hf : Oc.fitB n 4 = true := Oc.fit_mk (by decide) (by decide) (by show n < 256 ^ 4; omega)
      rw [Oc.wnum_yes l hf] at hw
      refine .inr ⟨l ++ Oc.be 4 n, ?_, ?_, hw⟩
      · unfold Oc.wrun
        rw [hlb, Oc.wnum_yes l hf]
        exact Lib.hid rfl
      · have := hs l rfl
        simp [Oc.be_length]
        omega
  have N' := Lib.hid N
  clear N h hA hp
  go_enter Tryd.func26, Tryd.ntmps26
  go_wp2_with fail
  refine N'.out.mono ?_
  rintro e w1 ⟨rfl, hw⟩
  rcases E.out w1 hw with ⟨hs0, hw1⟩ | ⟨L, HS, hL, v1, hpw, ht, hv⟩
  · have HW := Lib.hid hw1
    have HS := Lib.hid hs0
    obtain ⟨v1, hpw, _⟩ := hw1
    have d1 : w1.cell? ⟨g, 1, none⟩ = some (.int .i64 1) := hpw.2.1.cell 1
    clear hw hs0 hpw
    go_wp2
    go_end0
    exact ⟨rfl, by rw [HS.out]; exact HW.out⟩
  · have hb := hpw.2.1
    have c0 : w1.cell? ⟨g, 0, none⟩ = some v1 := hb.cell 0
    have c1 : w1.cell? ⟨g, 1, none⟩ = some (.int .i64 0) := hb.cell 1
    have ho := hpw.2.2.1
    have ne := own_blk_ne ho hb (by decide)
    have HPW := Lib.hid hpw
    have HT := Lib.hid ht
    have HV := Lib.hid hv
    have A1 := Lib.hid (HA.out.turn' ht HP.out)
    have HB := Lib.hid hb
    have HO := Lib.hid ho
    have NE := Lib.hid ne
    clear hw hpw ht hv hb ho ne
    go_wp2_with (at_builtin; refine wpList_app rfl (.tmp 18) (.tmp 19) rfl B v1 _ _ rfl HO.out p n c b rfl A1.out (by omega) (Nat.le_trans HPW.out.1 (Nat.le_of_lt HB.out.lt)) ?_; intro v2 w2 hown2 hg2 hat2; obtain ⟨q2, d2, rfl⟩ := own_slice hown2; have fb := HB.out.grown hg2 (Ne.symm NE.out); have f0 := fb.frozen 0; have d0 : w2.cell? ⟨g, 0, none⟩ = some v1 := fb.cell 0; have HO2 := Lib.hid hown2; have HG2 := Lib.hid hg2; have HAT := Lib.hid hat2; clear hown2 hg2 hat2 fb)
    go_end0
    refine ⟨rfl, ?_⟩
    rw [HS.out]
    exact rwrote_trans HT.out HV.out (rwrote_app HPW.out.1 HB.out HO.out HPW.out.2.2.2 A1.out.2.1 hlb HO2.out HG2.out HAT.out)
theorem src_far2 {W wr : World} {g : Nat} {v : Value} {s : Option (List Nat)} {q : Option Addr} {n : Nat} {l : List Nat} (h : RW wr W.heap.size g v s) (hA : At W q n l) (hn : 0 < n) : ∀ a, q = some a → ¬ Foot g v a.block := by
  intro a ha hf
  obtain ⟨b, o, e, hj⟩ := hA.2.2 hn
  rw [ha] at e
  injection e with e
  subst e
  have h1 := World.block_lt_of_cell? W _ (hj 0 hn)
  have h2 := (h.foot hf).1
  simp only at h1 h2
  omega
theorem RW.drew {w : World} {B g : Nat} {v : Value} {s : Option (List Nat)} (h : RW w B g v s) : RW w.drew B g v s := h.turn (S := fun _ => False) ((Turn.refl _ w).drew) (fun _ _ hf => hf)
/-- What the document's writer has at its end: its two cells, and what is wanted of it. -/
theorem rw_end {w : World} {B g : Nat} {v : Value} {s : Option (List Nat)} (h : RW w B g v s) : ∃ q m d, (∀ w', Below w.heap.size w w' → w'.cell? ⟨g, 0, none⟩ = some (.slice q m d) ∧ w'.cell? ⟨g, 1, none⟩ = some (.int .i64 (toldE s))) ∧
    (s ≠ none → m = (told s).length ∧ ∀ w', Below w.heap.size w w' → At w' q m (told s)) := by
  have h2 := h.2
  match s, h2 with
  | none, ⟨hb, n, xs, ho⟩ =>
    obtain ⟨q, d, rfl⟩ := own_slice ho
    exact ⟨q, n, d, fun w' hw => ⟨(hb.below hw hb.lt).cell 0, (hb.below hw hb.lt).cell 1⟩, fun h => absurd rfl h⟩
  | some l, ⟨hb, ho, hx⟩ =>
    obtain ⟨q, d, rfl, _, hA⟩ := at_own rfl hx ho
    exact ⟨q, l.length, d, fun w' hw => ⟨(hb.below hw hb.lt).cell 0, (hb.below hw hb.lt).cell 1⟩, fun _ => ⟨rfl, fun w' hw => hA.keep hw⟩⟩
end Ob
end Go.Proofs.YtbahilakfgbgpaaDoor
