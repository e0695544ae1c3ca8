/- Walks over a writer of package octets. No condition but those written. -/
import Derived.Test.YtbahilakfgbgpaaDoorMem
import Derived.Test.YtbahilakfgbgpaaDoorOcNum
import Derived.Test.YtbahilakfgbgpaaDoorClone
import Derived.Deep.RegionLaw
import Derived.Deep.RegionHeld3
import Derived.Deep.AppendLies
import Derived.StillTactics
import Derived.RegionTactic
import Derived.WalkSpells
namespace Go.Proofs.YtbahilakfgbgpaaDoor
open Go.RowKit

namespace Ob
/-- The writer of package octets: at block g, its bytes' slice v, its state s. -/
def PW (w : World) (B g : Nat) (v : Value) (s : Option (List Nat)) : Prop :=
  B ≤ g ∧ match s with
  | some l => Lies w g 65 #[v, .int .i64 0] ∧ w.ownsRow B 5 1 v l.length (bys l) ∧ ∀ x ∈ l, x < 256
  | none => Lies w g 65 #[.slice none 0 0, .int .i64 1] ∧ v = .slice none 0 0
/-- What of memory is a writer's. -/
def Foot (g : Nat) (v : Value) (k : Nat) : Prop := k = g ∨ v.ownBlock = some k
theorem PW.turn {w w' : World} {B g : Nat} {v : Value} {s : Option (List Nat)} {S : Nat → Prop} (h : PW w B g v s) (ht : Turn S w w') (hs : ∀ k, Foot g v k → ¬ S k) : PW w' B g v s := by
  refine ⟨h.1, ?_⟩
  have h2 := h.2
  match s, h2 with
  | none, h2 => exact ⟨h2.1.turn ht (hs g (.inl rfl)), h2.2⟩
  | some l, h2 => exact ⟨h2.1.turn ht (hs g (.inl rfl)), own_turn h2.2.1 ht (fun k hk => hs k (.inr hk)), h2.2.2⟩
theorem PW.foot {w : World} {B g : Nat} {v : Value} {s : Option (List Nat)} (h : PW w B g v s) {k : Nat} (hk : Foot g v k) : B ≤ k ∧ k < w.heap.size := by
  have h2 := h.2
  match s, h2 with
  | none, h2 =>
    rcases hk with rfl | hk
    · exact ⟨h.1, h2.1.lt⟩
    · rw [h2.2] at hk
      simp [Value.ownBlock] at hk
  | some l, h2 =>
    rcases hk with rfl | hk
    · exact ⟨h.1, h2.1.lt⟩
    · exact own_lt h2.2.1 hk
theorem size_any (n : Int) (w : World) : Calls Tryd.prog 37 #[.int .i64 n] w fun e w' => e = .returned (.bool (decide (1 ≤ n ∧ n ≤ 8))) ∧ w = w' := by
  by_cases h1 : 1 ≤ n
  · by_cases h2 : n ≤ 8
    · have e : decide (1 ≤ n ∧ n ≤ 8) = true := by simp [h1, h2]
      rw [e]
      go_enter Tryd.func37, Tryd.ntmps37
      go_wp2
      go_ret
      exact ⟨rfl, rfl⟩
    · have e : decide (1 ≤ n ∧ n ≤ 8) = false := by simp [h2]
      rw [e]
      go_enter Tryd.func37, Tryd.ntmps37
      go_wp2
      go_ret
      exact ⟨rfl, rfl⟩
  · have e : decide (1 ≤ n ∧ n ≤ 8) = false := by simp [h1]
    rw [e]
    go_enter Tryd.func37, Tryd.ntmps37
    go_wp2
    go_ret
    exact ⟨rfl, rfl⟩
theorem wworks_nil (w : World) : Calls Tryd.prog 36 #[.pointer none] w fun e w' => e = .returned (.bool false) ∧ w = w' := by
  go_enter Tryd.func36, Tryd.ntmps36
  go_wp2
  go_ret
  exact ⟨rfl, rfl⟩
theorem wworks_yes (g : Nat) (v : Value) (w : World) (h : Lies w g 65 #[v, .int .i64 0]) :
    Calls Tryd.prog 36 #[.pointer (some ⟨g, 0, none⟩)] w fun e w' => e = .returned (.bool true) ∧ w = w' := by
  have c1 : w.cell? ⟨g, 1, none⟩ = some (.int .i64 0) := h.cell 1
  clear h
  go_enter Tryd.func36, Tryd.ntmps36
  go_wp2
  go_ret
  exact ⟨rfl, rfl⟩
theorem wworks_no (g : Nat) (v : Value) (w : World) (h : Lies w g 65 #[v, .int .i64 1]) :
    Calls Tryd.prog 36 #[.pointer (some ⟨g, 0, none⟩)] w fun e w' => e = .returned (.bool false) ∧ w = w' := by
  have c1 : w.cell? ⟨g, 1, none⟩ = some (.int .i64 1) := h.cell 1
  clear h
  go_enter Tryd.func36, Tryd.ntmps36
  go_wp2
  go_ret
  exact ⟨rfl, rfl⟩
theorem fail_any (g : Nat) (t : TypeId) (v u : Value) (n : Int) (w : World) (h : Lies w g t #[v, u]) :
    Calls Tryd.prog 38 #[.pointer (some ⟨g, 0, none⟩), .int .i64 n] w fun e w' => e = .returned (.tuple #[]) ∧ w' = (w.setCell ⟨g, 0, none⟩ (.slice none 0 0)).setCell ⟨g, 1, none⟩ (.int .i64 n) := by
  have c0 : w.cell? ⟨g, 0, none⟩ = some v := h.cell 0
  have c1 : w.cell? ⟨g, 1, none⟩ = some u := h.cell 1
  have f0 := h.frozen 0
  have f1 := h.frozen 1
  have d1 : (w.setCell ⟨g, 0, none⟩ (.slice none 0 0)).cell? ⟨g, 1, none⟩ = some u := by
    have := (h.set_ 0 (.slice none 0 0)).cell 1
    simpa using this
  have e1 := (h.set_ 0 (.slice none 0 0)).frozen 1
  clear h
  go_enter Tryd.func38, Tryd.ntmps38
  go_wp2
  go_end0
  exact ⟨rfl, rfl⟩
/-- What a writer's loop has behind some rounds: k bytes are still to be written. -/
def WStep (w : World) (B g : Nat) (v : Value) (n m : Nat) (l : List Nat) (k : Nat) (wr : World) : Prop :=
  ∃ v' l', Lies wr g 65 #[v', .int .i64 0] ∧ wr.ownsRow B 5 1 v' l'.length (bys l') ∧ (∀ x ∈ l', x < 256) ∧ l' ++ Oc.be k n = l ++ Oc.be m n ∧ Turn (Foot g v) w wr ∧
    ∀ b, v'.ownBlock = some b → v.ownBlock = some b ∨ w.heap.size ≤ b
theorem wstep_next {w : World} {B g : Nat} {v : Value} {n m : Nat} {l : List Nat} {j x gg cap : Nat} {v' : Value} {l' : List Nat} {wr w1 : World} 
    (hl : l' ++ x :: Oc.be j n = l ++ Oc.be m n) (ht : Turn (Foot g v) w wr) (hv : ∀ b, v'.ownBlock = some b → v.ownBlock = some b ∨ w.heap.size ≤ b) (hx : ∀ x ∈ l', x < 256) (hx3 : x < 256)
    (hown : w1.ownsRow B 5 1 (.slice (some ⟨gg, 0, none⟩) (l'.length + 1) cap) (l'.length + 1) (bys l' ++ [.int .u8 (x : Int)])) (hg : (wr.alloc (.cells #[.int .u8 (x : Int)] 5)).drew.grownBy w1 v'.ownBlock)
    (hat : v'.ownBlock = some gg ∨ gg = wr.heap.size + 1) (fb : Lies w1 g 65 #[v', .int .i64 0]) :
    WStep w B g v n m l j (w1.setCell ⟨g, 0, none⟩ (.slice (some ⟨gg, 0, none⟩) (l'.length + 1) cap)) := by
  have hsz := ht.size
  have T1 : Turn (Foot g v) w w1 := ((ht.alloc _).drew).grown hg (fun k hk => (hv k hk).elim (fun h => .inl (.inr h)) .inr)
  have hne : (gg : Nat) ≠ g := fun e => own_blk_ne hown fb (by decide) (by rw [e]; rfl)
  refine ⟨.slice (some ⟨gg, 0, none⟩) (l'.length + 1) cap, l' ++ [x], ?_, ?_, ?_, ?_, ?_, ?_⟩
  · simpa using fb.set_ 0 (.slice (some ⟨gg, 0, none⟩) (l'.length + 1) cap)
  · rw [List.length_append, ← bys_snoc]
    exact own_turn hown ((Turn.refl (fun k => k = g) w1).setCell (p := ⟨g, 0, none⟩) (.inl rfl) _) (fun k hk e => by
      subst e
      exact hne (by simpa [Value.ownBlock] using hk))
  · intro y hy
    rcases List.mem_append.1 hy with h | h
    · exact hx y h
    · rw [List.mem_singleton.1 h]
      exact hx3
  · rw [List.append_assoc]
    exact hl
  · exact T1.setCell (p := ⟨g, 0, none⟩) (.inl (.inl rfl)) _
  · intro b hb'
    have e : gg = b := by simpa [Value.ownBlock] using hb'
    subst e
    rcases hat with h | h
    · exact hv gg h
    · right
      omega
set_option maxRecDepth 100000 in
set_option maxHeartbeats 1000000 in
theorem num_yes (B g : Nat) (v : Value) (l : List Nat) (n m : Nat) (w : World) (hB : B ≤ g) (hb : Lies w g 65 #[v, .int .i64 0]) (ho : w.ownsRow B 5 1 v l.length (bys l)) (hx : ∀ x ∈ l, x < 256)
    (h1 : 1 ≤ m) (h8 : m ≤ 8) (hf : n < 256 ^ m) (hl : l.length ≤ 1000000) :
    Calls Tryd.prog 18 #[.pointer (some ⟨g, 0, none⟩), .int .u64 (n : Int), .int .i64 (m : Int)] w fun e w' => e = .returned (.tuple #[]) ∧ WStep w B g v n m l 0 w' := by
  have hs : decide (1 ≤ (m : Int) ∧ (m : Int) ≤ 8) = true := by simp; omega
  have S := size_any (m : Int) w
  rw [hs] at S
  have S' := Lib.hid S
  have Y := Lib.hid (wworks_yes g v w hb)
  have hz : (n : Int) / 2 ^ (8 * (m : Int)).toNat = 0 := by
    have e : (8 * (m : Int)).toNat = 8 * m := by omega
    rw [e]
    have e2 : (256 : Nat) ^ m = 2 ^ (8 * m) := by rw [Nat.pow_mul]
    rw [e2] at hf
    have : n / 2 ^ (8 * m) = 0 := Nat.div_eq_of_lt hf
    exact_mod_cast this
  have HB := Lib.hid hb
  have HO := Lib.hid ho
  have HX := Lib.hid hx
  clear hs S hb ho hx hf
  go_enter Tryd.func18, Tryd.ntmps18
  go_wp2_with fail
  refine Y.out.mono ?_
  rintro e w' ⟨rfl, rfl⟩
  go_wp2_with fail
  refine S'.out.mono ?_
  rintro e w' ⟨rfl, rfl⟩
  go_wp2_with fail
  go_loopw [6] (fun i wr => ∃ k : Nat, k ≤ m ∧ i = .int .i64 ((k : Int) - 1) ∧ WStep w B g v n m l k wr) (fun i _ => (RowKit.intOf i + 1).toNat)
  case atStart => exact ⟨m, Nat.le_refl _, rfl, v, l, HB.out, HO.out, HX.out, rfl, Turn.refl _ _, fun b h => .inl h⟩
  case round =>
    obtain ⟨k, hk, rfl, hst⟩ := hrel
    clear HB HO HX S' Y hz
    rcases Nat.eq_zero_or_pos k with rfl | hk0
    · have HS := Lib.hid hst
      clear hst
      go_wp2
      go_end0
      exact ⟨rfl, HS.out⟩
    · obtain ⟨j, rfl⟩ : ∃ j, k = j + 1 := ⟨k - 1, by omega⟩
      have e1 : (((j + 1 : Nat) : Int) - 1) = (j : Int) := by omega
      rw [e1]
      obtain ⟨v', l', hb, ho, hx, hl', ht, hv⟩ := hst
      have c0 : wr.cell? ⟨g, 0, none⟩ = some v' := hb.cell 0
      have lg := hb.lt
      have q1 : IntKind.i64.wrap (8 * (j : Int)) = 8 * (j : Int) := IntWalk.i64_in _ (by omega)
      have q2 : (0 : Int) ≤ 8 * (j : Int) := by omega
      obtain ⟨x, hx2, q3⟩ := byte_of n j
      rw [Oc.be_succ, ← hx2] at hl'
      have hx3 : x < 256 := by rw [hx2]; exact Nat.mod_lt _ (by decide)
      have hL : l'.length ≤ 1000008 := by
        have := congrArg List.length hl'
        simp [Oc.be_length] at this
        omega
      have ne : v'.ownBlock ≠ some g := own_blk_ne ho hb (by decide)
      have HL := Lib.hid hl'
      have HT := Lib.hid ht
      have HV := Lib.hid hv
      have HX := Lib.hid hx
      have HX2 := Lib.hid hx2
      clear hl' ht hv hx hx2 e1
      obtain ⟨i0, hi, hz0, hz1, hz2⟩ := info_parts info5
      go_wp2_with fail
      go_region_law
        ((refine step_append_lies _ (by rfl) _ _ _ (by rfl) B 5 i0 _ 1 1 Tryd.underlying23 hi hz0 hz1 hz2 rfl (by omega) v' l'.length (bys l') (by rfl) ((ho.alloc _).drew)
            ⟨wr.heap.size, 0, none⟩ 1 1 [.int .u8 (x : Int)] (by rfl) (by rfl) (World.news_of_block (cs := #[.int .u8 (x : Int)]) (t := 5) (fr := (0, 0)) (heap_alloc_new wr _)) (by simp [Value.oneCell'])
            (by omega) (by unfold maxLen; omega) (by omega) (by simp; omega) (wr.heap.size + 1) (by simp) ?_; intro gg cap w1 hown1 hgrow hat hlt; have fb := ((hb.alloc (.cells #[.int .u8 (x : Int)] 5)).drewN 1).grown (w' := w1) hgrow (Ne.symm ne); have f0 := fb.frozen 0; have c1 : w1.cell? ⟨g, 0, none⟩ = some v' := fb.cell 0))
      go_wp2
      go_roundw
      case rel => exact ⟨j, by omega, rfl, wstep_next HL.out HT.out HV.out HX.out hx3 hown1 hgrow hat fb⟩
      case measure => simp [RowKit.intOf]
      case roundEnd => exact ⟨⟨j, by omega, rfl, wstep_next HL.out HT.out HV.out HX.out hx3 hown1 hgrow hat fb⟩, by simp [RowKit.intOf]⟩
/-- What a writer's call leaves: its state, and that nothing else has turned. -/
def Wrote (w : World) (B g : Nat) (v : Value) (s : Option (List Nat)) (w' : World) : Prop :=
  ∃ v', PW w' B g v' s ∧ Turn (Foot g v) w w' ∧ ∀ b, v'.ownBlock = some b → v.ownBlock = some b ∨ w.heap.size ≤ b
theorem wrote_step {w w' : World} {B g : Nat} {v : Value} {n m : Nat} {l : List Nat} (hB : B ≤ g) (h : WStep w B g v n m l 0 w') : Wrote w B g v (some (l ++ Oc.be m n)) w' := by
  obtain ⟨v', l', hb, ho, hx, hl, ht, hv⟩ := h
  have e : l' = l ++ Oc.be m n := by simpa [Oc.be_zero] using hl
  subst e
  exact ⟨v', ⟨hB, hb, ho, hx⟩, ht, hv⟩
theorem wrote_fail {w : World} {B g : Nat} {v u : Value} (hB : B ≤ g) (h : Lies w g 65 #[v, u]) : Wrote w B g v none ((w.setCell ⟨g, 0, none⟩ (.slice none 0 0)).setCell ⟨g, 1, none⟩ (.int .i64 1)) := by
  refine ⟨.slice none 0 0, ⟨hB, ?_, rfl⟩, ((Turn.refl _ w).setCell (p := ⟨g, 0, none⟩) (.inl (.inl rfl)) _).setCell (p := ⟨g, 1, none⟩) (.inl (.inl rfl)) _, fun b hb => by simp [Value.ownBlock] at hb⟩
  have := (h.set_ 0 (.slice none 0 0)).set_ 1 (.int .i64 1)
  simpa using this
set_option maxHeartbeats 1000000 in
theorem num_err (B g : Nat) (v : Value) (n : Nat) (m : Int) (w : World) (h : PW w B g v none) :
    Calls Tryd.prog 18 #[.pointer (some ⟨g, 0, none⟩), .int .u64 (n : Int), .int .i64 m] w fun e w' => e = .returned (.tuple #[]) ∧ w = w' := by
  have N := Lib.hid (wworks_no g _ w h.2.1)
  clear h
  go_enter Tryd.func18, Tryd.ntmps18
  go_wp2_with fail
  refine N.out.mono ?_
  rintro e w' ⟨rfl, rfl⟩
  go_wp2
  refine bodyPost_ret (results_none rfl _ _ _) rfl ?_
  exact ⟨rfl, rfl⟩
set_option maxHeartbeats 1000000 in
theorem num_size (B g : Nat) (v : Value) (l : List Nat) (n : Nat) (m : Int) (w : World) (h : PW w B g v (some l)) (hm : ¬ (1 ≤ m ∧ m ≤ 8)) :
    Calls Tryd.prog 18 #[.pointer (some ⟨g, 0, none⟩), .int .u64 (n : Int), .int .i64 m] w fun e w' => e = .returned (.tuple #[]) ∧ Wrote w B g v none w' := by
  have hs : decide (1 ≤ m ∧ m ≤ 8) = false := by simp; omega
  have S := size_any m w
  rw [hs] at S
  have S' := Lib.hid S
  have Y := Lib.hid (wworks_yes g v w h.2.1)
  have F := Lib.hid (fail_any g 65 v _ 1 w h.2.1)
  have W := Lib.hid (wrote_fail h.1 h.2.1)
  clear hs S h hm
  go_enter Tryd.func18, Tryd.ntmps18
  go_wp2_with fail
  refine Y.out.mono ?_
  rintro e w' ⟨rfl, rfl⟩
  go_wp2_with fail
  refine S'.out.mono ?_
  rintro e w' ⟨rfl, rfl⟩
  go_wp2_with fail
  refine F.out.mono ?_
  rintro e w' ⟨rfl, rfl⟩
  go_wp2
  refine bodyPost_ret (results_none rfl _ _ _) rfl ?_
  exact ⟨rfl, W.out⟩
set_option maxHeartbeats 1000000 in
theorem num_big (B g : Nat) (v : Value) (l : List Nat) (n m : Nat) (w : World) (h : PW w B g v (some l)) (h1 : 1 ≤ m) (h8 : m ≤ 8) (hf : ¬ n < 256 ^ m) :
    Calls Tryd.prog 18 #[.pointer (some ⟨g, 0, none⟩), .int .u64 (n : Int), .int .i64 (m : Int)] w fun e w' => e = .returned (.tuple #[]) ∧ Wrote w B g v none w' := by
  have hs : decide (1 ≤ (m : Int) ∧ (m : Int) ≤ 8) = true := by simp; omega
  have S := size_any (m : Int) w
  rw [hs] at S
  have S' := Lib.hid S
  have Y := Lib.hid (wworks_yes g v w h.2.1)
  have F := Lib.hid (fail_any g 65 v _ 1 w h.2.1)
  have W := Lib.hid (wrote_fail h.1 h.2.1)
  have hz : ((n : Int) / 2 ^ (8 * (m : Int)).toNat != 0) = true := by
    have e : (8 * (m : Int)).toNat = 8 * m := by omega
    rw [e, bne_iff_ne]
    have e2 : (256 : Nat) ^ m = 2 ^ (8 * m) := by rw [Nat.pow_mul]
    rw [e2] at hf
    have h0 : 0 < n / 2 ^ (8 * m) := Nat.div_pos (by omega) (Nat.pow_pos (by decide))
    have e3 : ((n : Int) / 2 ^ (8 * m)) = ((n / 2 ^ (8 * m) : Nat) : Int) := by
      rw [Int.natCast_ediv]
      simp
    rw [e3]
    omega
  have hz2 : ((n : Int) / 2 ^ (8 * m) != 0) = true := by
    have e : (8 * (m : Int)).toNat = 8 * m := by omega
    rwa [e] at hz
  clear hs S h hf
  go_enter Tryd.func18, Tryd.ntmps18
  go_wp2_with fail
  refine Y.out.mono ?_
  rintro e w' ⟨rfl, rfl⟩
  go_wp2_with fail
  refine S'.out.mono ?_
  rintro e w' ⟨rfl, rfl⟩
  go_wp2_with fail
  refine F.out.mono ?_
  rintro e w' ⟨rfl, rfl⟩
  go_wp2
  refine bodyPost_ret (results_none rfl _ _ _) rfl ?_
  exact ⟨rfl, W.out⟩
theorem wrote_refl {w : World} {B g : Nat} {v : Value} {s : Option (List Nat)} (h : PW w B g v s) : Wrote w B g v s w := ⟨v, h, Turn.refl _ _, fun _ h => .inl h⟩
/-- How many bytes a writer has. -/
def short (s : Option (List Nat)) (n : Nat) : Prop := ∀ l, s = some l → l.length ≤ n
/-- Num of a writer. -/
theorem num_any (B g : Nat) (v : Value) (s : Option (List Nat)) (n : Nat) (m : Int) (w : World) (h : PW w B g v s) (hs : short s 1000000) :
    Calls Tryd.prog 18 #[.pointer (some ⟨g, 0, none⟩), .int .u64 (n : Int), .int .i64 m] w fun e w' => e = .returned (.tuple #[]) ∧ Wrote w B g v (Oc.wnum s n m) w' := by
  match s, h, hs with
  | none, h, _ => exact (num_err B g v n m w h).mono fun e w' ⟨he, hw⟩ => ⟨he, hw ▸ wrote_refl h⟩
  | some l, h, hs =>
    by_cases hm : 1 ≤ m ∧ m ≤ 8
    · obtain ⟨k, rfl⟩ : ∃ k : Nat, m = k := ⟨m.toNat, by omega⟩
      by_cases hf : n < 256 ^ k
      · rw [Oc.wnum_yes l (Oc.fit_mk hm.1 hm.2 (by simpa using hf))]
        exact (num_yes B g v l n k w h.1 h.2.1 h.2.2.1 h.2.2.2 (by omega) (by omega) hf (hs l rfl)).mono fun e w' ⟨he, hw⟩ => ⟨he, wrote_step h.1 hw⟩
      · rw [Oc.wnum_no l (Oc.fit_no2 (by simpa using hf))]
        exact num_big B g v l n k w h (by omega) (by omega) hf
    · rw [Oc.wnum_no l (Oc.fit_no1 hm)]
      exact num_size B g v l n m w h hm
theorem new_any (w : World) : Calls Tryd.prog 17 #[] w fun e w' => e = .returned (.pointer (some ⟨w.heap.size, 0, none⟩)) ∧ w' = w.alloc (.cells #[.slice none 0 0, .int .i64 0] 65) := by
  go_enter Tryd.func17, Tryd.ntmps17
  go_wp2
  go_ret
  exact ⟨rfl, rfl⟩
theorem new_pw (w : World) (B : Nat) (hB : B ≤ w.heap.size) : PW (w.alloc (.cells #[.slice none 0 0, .int .i64 0] 65)) B w.heap.size (.slice none 0 0) (some []) :=
  ⟨hB, Lies.new w 65 _, ⟨rfl, .inl ⟨rfl, rfl⟩⟩, fun x hx => by simp at hx⟩
theorem int_any (B g : Nat) (v : Value) (s : Option (List Nat)) (i : Int) (n : Nat) (w : World) (h : PW w B g v s) (hi : IntKind.u64.wrap i = (n : Int)) (hs : short s 1000000) :
    Calls Tryd.prog 20 #[.pointer (some ⟨g, 0, none⟩), .int .i64 i] w fun e w' => e = .returned (.tuple #[]) ∧ Wrote w B g v (Oc.wnum s n 8) w' := by
  have N := Lib.hid (num_any B g v s n 8 w h hs)
  clear h
  go_enter Tryd.func20, Tryd.ntmps20
  go_wp2_with fail
  refine N.out.mono ?_
  rintro e w' ⟨rfl, hw⟩
  have HW := Lib.hid hw
  clear hw
  go_wp2
  go_end0
  exact ⟨rfl, HW.out⟩
theorem nil_num (n m : Int) (w : World) : Calls Tryd.prog 18 #[.pointer none, .int .u64 n, .int .i64 m] w fun e w' => e = .returned (.tuple #[]) ∧ w = w' := by
  go_enter Tryd.func18, Tryd.ntmps18
  go_wp2_with fail
  refine (wworks_nil w).mono ?_
  rintro e w' ⟨rfl, rfl⟩
  go_wp2
  refine bodyPost_ret (results_none rfl _ _ _) rfl ?_
  exact ⟨rfl, rfl⟩
theorem nil_run (p : Option Addr) (n c : Nat) (w : World) (hn : n ≤ 1000000) : Calls Tryd.prog 21 #[.pointer none, .slice p n c] w fun e w' => e = .returned (.tuple #[]) ∧ w = w' := by
  go_enter Tryd.func21, Tryd.ntmps21
  go_wp2_with fail
  refine (nil_num _ _ w).mono ?_
  rintro e w' ⟨rfl, rfl⟩
  go_wp2_with fail
  refine (wworks_nil w).mono ?_
  rintro e w' ⟨rfl, rfl⟩
  go_wp2
  go_end0
  exact ⟨rfl, rfl⟩
theorem nil_done (w : World) : Calls Tryd.prog 22 #[.pointer none] w fun e w' => e = .returned (.tuple #[.slice none 0 0, .int .i64 1]) ∧ w = w' := by
  go_enter Tryd.func22, Tryd.ntmps22
  go_wp2
  go_ret2
  exact ⟨rfl, rfl⟩
theorem wrote_trans {w w1 w2 : World} {B g : Nat} {v v1 : Value} {s : Option (List Nat)} (ht : Turn (Foot g v) w w1) (hv : ∀ b, v1.ownBlock = some b → v.ownBlock = some b ∨ w.heap.size ≤ b) (h : Wrote w1 B g v1 s w2) : Wrote w B g v s w2 := by
  obtain ⟨v2, hp, ht2, hv2⟩ := h
  have hs := ht.size
  refine ⟨v2, hp, ht.trans ht2 (fun i hi => ?_), fun b hb => ?_⟩
  · rcases hi with rfl | hi
    · exact .inl (.inl rfl)
    · exact (hv i hi).elim (fun h => .inl (.inr h)) .inr
  · rcases hv2 b hb with h | h
    · exact hv b h
    · right
      omega
/-- What an append, and its store, leave. -/
theorem wrote_app {w w1 : World} {B g n : Nat} {v v1 : Value} {l b : List Nat} (hB : B ≤ g) (hb : Lies w g 65 #[v, .int .i64 0]) (ho : w.ownsRow B 5 1 v l.length (bys l)) (hx : ∀ x ∈ l, x < 256) (hxb : ∀ x ∈ b, x < 256) (hn : b.length = n)
    (hown : w1.ownsRow B 5 1 v1 (l.length + n) (bys l ++ bys b)) (hg : w.grownBy w1 v.ownBlock) (hat : v1.ownBlock = v.ownBlock ∨ v1.ownBlock = some w.heap.size) : Wrote w B g v (some (l ++ b)) (w1.setCell ⟨g, 0, none⟩ v1) := by
  have lg := hb.lt
  have fb := hb.grown hg (Ne.symm (own_blk_ne ho hb (by decide)))
  refine ⟨v1, ⟨hB, by simpa using fb.set_ 0 v1, ?_, Oc.mem_app hx hxb⟩, ?_, ?_⟩
  · subst hn
    rw [List.length_append, bys_append]
    refine own_turn hown ((Turn.refl (fun k => k = g) w1).setCell (p := ⟨g, 0, none⟩) (.inl rfl) _) (fun k hk e => ?_)
    subst e
    exact own_blk_ne hown fb (by decide) hk
  · exact ((Turn.refl (Foot g v) w).grown hg (fun k hk => .inl (.inr hk))).setCell (p := ⟨g, 0, none⟩) (.inl (.inl rfl)) _
  · intro k hk
    rcases hat with e | e
    · exact .inl (by rw [← e]; exact hk)
    · rw [e] at hk
      right
      have : w.heap.size = k := by simpa using hk
      omega
set_option maxHeartbeats 1000000 in
theorem run_any (B g : Nat) (v : Value) (s : Option (List Nat)) (p : Option Addr) (n c : Nat) (b : List Nat) (w : World) (h : PW w B g v s) (hs : short s 900000) (hn : n ≤ 1000000) (hA : At w p n b) (hp : 0 < n → ∀ a, p = some a → ¬ Foot g v a.block) :
    Calls Tryd.prog 21 #[.pointer (some ⟨g, 0, none⟩), .slice p n c] w fun e w' => e = .returned (.tuple #[]) ∧ Wrote w B g v (Oc.wrun s b) w' := by
  have N := num_any B g v s n 4 w h (fun l hl => Nat.le_trans (hs l hl) (by decide))
  have hlb : b.length = n := hA.1
  have HA := Lib.hid hA
  have HP := Lib.hid hp
  have E : Hid (∀ w', Wrote w B g v (Oc.wnum s n 4) w' → (Oc.wrun s b = none ∧ Wrote w B g v none w') ∨ ∃ L, Hid (Oc.wrun s b = some (L ++ b)) ∧ L.length ≤ 900004 ∧ Wrote w B g v (some L) w') := by
    intro w' hw
    match s, hw with
    | none, hw => exact .inl ⟨rfl, hw⟩
    | some l, hw =>
      have hf : Oc.fitB n 4 = true := Oc.fit_mk (by decide) (by decide) (by show n < 256 ^ 4; omega)
      rw [Oc.wnum_yes l hf] at hw
      refine .inr ⟨l ++ Oc.be 4 n, ?_, ?_, hw⟩
      · unfold Oc.wrun
        rw [hlb, Oc.wnum_yes l hf]
        exact Lib.hid rfl
      · have := hs l rfl
        simp [Oc.be_length]
        omega
  have N' := Lib.hid N
  clear N h hA hp
  go_enter Tryd.func21, Tryd.ntmps21
  go_wp2_with fail
  refine N'.out.mono ?_
  rintro e w1 ⟨rfl, hw⟩
  rcases E.out w1 hw with ⟨hs0, hw1⟩ | ⟨L, HS, hL, v1, hpw, ht, hv⟩
  · have HW := Lib.hid hw1
    have HS := Lib.hid hs0
    obtain ⟨v1, hpw, _⟩ := hw1
    have Y := Lib.hid (wworks_no g _ w1 hpw.2.1)
    clear hw hs0 hpw
    go_wp2_with fail
    refine Y.out.mono ?_
    rintro e w' ⟨rfl, rfl⟩
    go_wp2
    go_end0
    exact ⟨rfl, by rw [HS.out]; exact HW.out⟩
  · have hb := hpw.2.1
    have c0 : w1.cell? ⟨g, 0, none⟩ = some v1 := hb.cell 0
    have ho := hpw.2.2.1
    have ne := own_blk_ne ho hb (by decide)
    have HPW := Lib.hid hpw
    have HT := Lib.hid ht
    have HV := Lib.hid hv
    have A1 := Lib.hid (HA.out.turn' ht HP.out)
    have HB := Lib.hid hb
    have HO := Lib.hid ho
    have Y := Lib.hid (wworks_yes g _ w1 hb)
    have NE := Lib.hid ne
    clear hw hpw ht hv hb ho ne
    go_wp2_with fail
    refine Y.out.mono ?_
    rintro e w' ⟨rfl, rfl⟩
    go_wp2_with (at_builtin; refine wpList_app rfl (.tmp 16) (.tmp 17) rfl B v1 _ _ rfl HO.out p n c b rfl A1.out (by omega) (Nat.le_trans HPW.out.1 (Nat.le_of_lt HB.out.lt)) ?_; intro v2 w2 hown2 hg2 hat2; obtain ⟨q2, d2, rfl⟩ := own_slice hown2; have fb := HB.out.grown hg2 (Ne.symm NE.out); have f0 := fb.frozen 0; have d0 : w2.cell? ⟨g, 0, none⟩ = some v1 := fb.cell 0; have HO2 := Lib.hid hown2; have HG2 := Lib.hid hg2; have HAT := Lib.hid hat2; clear hown2 hg2 hat2 fb)
    go_end0
    refine ⟨rfl, ?_⟩
    rw [HS.out]
    exact wrote_trans HT.out HV.out (wrote_app HPW.out.1 HB.out HO.out HPW.out.2.2.2 A1.out.2.1 hlb HO2.out HG2.out HAT.out)
set_option maxHeartbeats 1000000 in
theorem done_at (g n c : Nat) (p : Option Addr) (u : Int) (l : List Nat) (w : World) (h : Lies w g 65 #[.slice p n c, .int .i64 u]) (hn : n ≤ 1000000) (hA : At w p n l) :
    Calls Tryd.prog 22 #[.pointer (some ⟨g, 0, none⟩)] w fun e w' => ∃ q d, e = .returned (.tuple #[.slice q n d, .int .i64 u]) ∧ n ≤ d ∧ At w' q n l ∧ Below w.heap.size w w' := by
  have lg := h.lt
  have c0 : w.cell? ⟨g, 0, none⟩ = some (.slice p n c) := h.cell 0
  have c1 : w.cell? ⟨g, 1, none⟩ = some (.int .i64 u) := h.cell 1
  have C := Lib.hid (clone_any p n c l w.drew hn (hA.drewN 1))
  have HA := Lib.hid hA
  have HB := Lib.hid h
  clear hA h
  go_enter Tryd.func22, Tryd.ntmps22
  go_wp2_with fail
  go_region_held3 (fun w' => w'.cell? ⟨g, 0, none⟩ = some (.slice p n c) ∧ w'.cell? ⟨g, 1, none⟩ = some (.int .i64 u))
    (first | go_keep | exact ⟨d0, d1⟩)
    ((refine C.out.mono ?_; rintro e w1 ⟨q, d, rfl, hd, hA1, hb⟩; have fb := (HB.out.drewN 1).below hb lg; have d0 : w1.cell? ⟨g, 0, none⟩ = some (.slice p n c) := fb.cell 0; have d1 : w1.cell? ⟨g, 1, none⟩ = some (.int .i64 u) := fb.cell 1))
  all_goals
    go_wp2
    go_ret2
    exact ⟨q, d, rfl, hd, hA1, below_drewN (Below.refl _ w) 1 |>.trans hb⟩
/-- What a writer tells at the end. -/
def told (s : Option (List Nat)) : List Nat := s.getD []
def toldE (s : Option (List Nat)) : Int := if s.isSome then 0 else 1
theorem done_any (B g : Nat) (v : Value) (s : Option (List Nat)) (w : World) (h : PW w B g v s) (hs : short s 1000000) :
    Calls Tryd.prog 22 #[.pointer (some ⟨g, 0, none⟩)] w fun e w' => ∃ q d, e = .returned (.tuple #[.slice q (told s).length d, .int .i64 (toldE s)]) ∧ (told s).length ≤ d ∧ At w' q (told s).length (told s) ∧ Below w.heap.size w w' := by
  match s, h, hs with
  | none, h, _ =>
    exact done_at g 0 0 none 1 [] w h.2.1 (by decide) (at_nil w)
  | some l, h, hs =>
    obtain ⟨q, c, rfl, hc, hA⟩ := at_own rfl h.2.2.2 h.2.2.1
    exact done_at g l.length c q 0 l w h.2.1 (hs l rfl) hA
theorem wrote_below {w wi w' : World} {B g : Nat} {v : Value} {s0 s : Option (List Nat)} (hp : PW wi B g v s0) (hb : Below B w wi) (h : Wrote wi B g v s w') : ∃ v', PW w' B g v' s ∧ Below B w w' := by
  obtain ⟨v', hp', ht, _⟩ := h
  exact ⟨v', hp', ht.below hb (Nat.le_trans hp.1 (Nat.le_of_lt (hp.foot (.inl rfl)).2)) (fun i hi => (hp.foot hi).1)⟩
theorem short_of {l : List Nat} {n : Nat} (h : l.length ≤ n) : short (some l) n := fun l' e => by
  injection e with e
  rw [← e]
  exact h
theorem PW.below {w w' : World} {B g : Nat} {v : Value} {s : Option (List Nat)} (h : PW w B g v s) (hb : Below w.heap.size w w') : PW w' B g v s := h.turn (S := fun _ => False) (Turn.of_below hb) (fun _ _ hf => hf)
theorem foot_new {w : World} {B g : Nat} {v : Value} {s : Option (List Nat)} (h : PW w B g v s) : ∀ a : Addr, (some ⟨w.heap.size, 0, none⟩ : Option Addr) = some a → ¬ Foot g v a.block := by
  intro a ha hf
  injection ha with ha
  subst ha
  have := (h.foot hf).2
  simp only at this
  omega
theorem src_far {W wr : World} {g : Nat} {v : Value} {s : Option (List Nat)} {q : Option Addr} {n : Nat} {l : List Nat} (h : PW wr W.heap.size g v s) (hA : At W q n l) (hn : 0 < n) : ∀ a, q = some a → ¬ Foot g v a.block := by
  intro a ha hf
  obtain ⟨b, o, e, hj⟩ := hA.2.2 hn
  rw [ha] at e
  injection e with e
  subst e
  have h1 := World.block_lt_of_cell? W _ (hj 0 hn)
  have h2 := (h.foot hf).1
  simp only at h1 h2
  omega
theorem short_mono {s : Option (List Nat)} {a b : Nat} (h : short s a) (hab : a ≤ b) : short s b := fun l hl => Nat.le_trans (h l hl) hab
theorem PW.drew {w : World} {B g : Nat} {v : Value} {s : Option (List Nat)} (h : PW w B g v s) : PW w.drew B g v s := h.turn (S := fun _ => False) ((Turn.refl _ w).drew) (fun _ _ hf => hf)
end Ob
end Go.Proofs.YtbahilakfgbgpaaDoor
