/- Walks over what is written, in package octets. -/
import Derived.Test.YtakkkdmbghdhgaaW1
import Derived.Deep.RegionLaw
import Derived.Deep.AppendLies
import Derived.StillTactics
import Derived.RegionTactic
import Derived.WalkSpells
import Derived.IntWalk
namespace Go.Proofs.Ytakkkdmbghdhgaa
open Go.RowKit

/-- What a writer's loop has behind some rounds: k bytes are still to be written. -/
def WStep (w : World) (B g : Nat) (v : Value) (n m : Nat) (l : List Nat) (k : Nat) (wr : World) : Prop :=
  ∃ v' l', Lies wr g 55 #[v', .int .i64 0] ∧ wr.ownsRow B 5 1 v' l'.length (bys l') ∧ (∀ x ∈ l', x < 256) ∧ l' ++ Oc.be k n = l ++ Oc.be m n ∧ Turn (Foot g v) w wr ∧
    ∀ b, v'.ownBlock = some b → v.ownBlock = some b ∨ w.heap.size ≤ b

/-- A byte of a number, as the walk has it. -/
theorem byte_of (n j : Nat) : ∃ x : Nat, x = n / 256 ^ j % 256 ∧ IntKind.u8.wrap ((n : Int) / 2 ^ (8 * (j : Int)).toNat) = (x : Int) := by
  refine ⟨_, rfl, ?_⟩
  have e : (8 * (j : Int)).toNat = 8 * j := by omega
  rw [e, IntKind.wrap_u8]
  have e2 : (256 : Nat) ^ j = 2 ^ (8 * j) := by rw [Nat.pow_mul]
  rw [e2]
  have e3 : ((n : Int) / 2 ^ (8 * j)) = ((n / 2 ^ (8 * j) : Nat) : Int) := by
    rw [Int.natCast_ediv]
    simp
  rw [e3]
  generalize n / 2 ^ (8 * j) = q
  omega

theorem bys_snoc (l : List Nat) (x : Nat) : bys l ++ [.int .u8 (x : Int)] = bys (l ++ [x]) := by simp [bys]
theorem wstep_next {w : World} {B g : Nat} {v : Value} {n m : Nat} {l : List Nat} {j x gg cap : Nat} {v' : Value} {l' : List Nat} {wr w1 : World} 
    (hl : l' ++ x :: Oc.be j n = l ++ Oc.be m n) (ht : Turn (Foot g v) w wr) (hv : ∀ b, v'.ownBlock = some b → v.ownBlock = some b ∨ w.heap.size ≤ b) (hx : ∀ x ∈ l', x < 256) (hx3 : x < 256)
    (hown : w1.ownsRow B 5 1 (.slice (some ⟨gg, 0, none⟩) (l'.length + 1) cap) (l'.length + 1) (bys l' ++ [.int .u8 (x : Int)])) (hg : (wr.alloc (.cells #[.int .u8 (x : Int)] 5)).drew.grownBy w1 v'.ownBlock)
    (hat : v'.ownBlock = some gg ∨ gg = wr.heap.size + 1) (fb : Lies w1 g 55 #[v', .int .i64 0]) :
    WStep w B g v n m l j (w1.setCell ⟨g, 0, none⟩ (.slice (some ⟨gg, 0, none⟩) (l'.length + 1) cap)) := by
  have hsz := ht.size
  have T1 : Turn (Foot g v) w w1 := ((ht.alloc _).drew).grown hg (fun k hk => (hv k hk).elim (fun h => .inl (.inr h)) .inr)
  have hne : (gg : Nat) ≠ g := fun e => own_blk_ne hown fb (by decide) (by rw [e]; rfl)
  refine ⟨.slice (some ⟨gg, 0, none⟩) (l'.length + 1) cap, l' ++ [x], ?_, ?_, ?_, ?_, ?_, ?_⟩
  · simpa using fb.set_ 0 (.slice (some ⟨gg, 0, none⟩) (l'.length + 1) cap)
  · rw [List.length_append, ← bys_snoc]
    exact own_turn hown ((Turn.refl (fun k => k = g) w1).setCell (p := ⟨g, 0, none⟩) (.inl rfl) _) (fun k hk e => by
      subst e
      exact hne (by simpa [Value.ownBlock] using hk))
  · intro y hy
    rcases List.mem_append.1 hy with h | h
    · exact hx y h
    · rw [List.mem_singleton.1 h]
      exact hx3
  · rw [List.append_assoc]
    exact hl
  · exact T1.setCell (p := ⟨g, 0, none⟩) (.inl (.inl rfl)) _
  · intro b hb'
    have e : gg = b := by simpa [Value.ownBlock] using hb'
    subst e
    rcases hat with h | h
    · exact hv gg h
    · right
      omega

set_option maxRecDepth 100000 in
set_option maxHeartbeats 1000000 in
theorem num_yes (B g : Nat) (v : Value) (l : List Nat) (n m : Nat) (w : World) (hB : B ≤ g) (hb : Lies w g 55 #[v, .int .i64 0]) (ho : w.ownsRow B 5 1 v l.length (bys l)) (hx : ∀ x ∈ l, x < 256)
    (h1 : 1 ≤ m) (h8 : m ≤ 8) (hf : n < 256 ^ m) (hl : l.length ≤ 1000000) :
    Calls Try.prog 9 #[.pointer (some ⟨g, 0, none⟩), .int .u64 (n : Int), .int .i64 (m : Int)] w fun e w' => e = .returned (.tuple #[]) ∧ WStep w B g v n m l 0 w' := by
  have hs : decide (1 ≤ (m : Int) ∧ (m : Int) ≤ 8) = true := by simp; omega
  have S := size_any (m : Int) w
  rw [hs] at S
  have S' := Lib.hid S
  have Y := Lib.hid (wworks_yes g v w hb)
  have hz : (n : Int) / 2 ^ (8 * (m : Int)).toNat = 0 := by
    have e : (8 * (m : Int)).toNat = 8 * m := by omega
    rw [e]
    have e2 : (256 : Nat) ^ m = 2 ^ (8 * m) := by rw [Nat.pow_mul]
    rw [e2] at hf
    have : n / 2 ^ (8 * m) = 0 := Nat.div_eq_of_lt hf
    exact_mod_cast this
  have HB := Lib.hid hb
  have HO := Lib.hid ho
  have HX := Lib.hid hx
  clear hs S hb ho hx hf
  go_enter Try.func9, Try.ntmps9
  go_wp2_with fail
  refine Y.out.mono ?_
  rintro e w' ⟨rfl, rfl⟩
  go_wp2_with fail
  refine S'.out.mono ?_
  rintro e w' ⟨rfl, rfl⟩
  go_wp2_with fail
  go_loopw [6] (fun i wr => ∃ k : Nat, k ≤ m ∧ i = .int .i64 ((k : Int) - 1) ∧ WStep w B g v n m l k wr) (fun i _ => (intOf i + 1).toNat)
  case atStart => exact ⟨m, Nat.le_refl _, rfl, v, l, HB.out, HO.out, HX.out, rfl, Turn.refl _ _, fun b h => .inl h⟩
  case round =>
    obtain ⟨k, hk, rfl, hst⟩ := hrel
    clear HB HO HX S' Y hz
    rcases Nat.eq_zero_or_pos k with rfl | hk0
    · have HS := Lib.hid hst
      clear hst
      go_wp2
      go_end0
      exact ⟨rfl, HS.out⟩
    · obtain ⟨j, rfl⟩ : ∃ j, k = j + 1 := ⟨k - 1, by omega⟩
      have e1 : (((j + 1 : Nat) : Int) - 1) = (j : Int) := by omega
      rw [e1]
      obtain ⟨v', l', hb, ho, hx, hl', ht, hv⟩ := hst
      have c0 : wr.cell? ⟨g, 0, none⟩ = some v' := hb.cell 0
      have lg := hb.lt
      have q1 : IntKind.i64.wrap (8 * (j : Int)) = 8 * (j : Int) := IntWalk.i64_in _ (by omega)
      have q2 : (0 : Int) ≤ 8 * (j : Int) := by omega
      obtain ⟨x, hx2, q3⟩ := byte_of n j
      rw [Oc.be_succ, ← hx2] at hl'
      have hx3 : x < 256 := by rw [hx2]; exact Nat.mod_lt _ (by decide)
      have hL : l'.length ≤ 1000008 := by
        have := congrArg List.length hl'
        simp [Oc.be_length] at this
        omega
      have ne : v'.ownBlock ≠ some g := own_blk_ne ho hb (by decide)
      have HL := Lib.hid hl'
      have HT := Lib.hid ht
      have HV := Lib.hid hv
      have HX := Lib.hid hx
      have HX2 := Lib.hid hx2
      clear hl' ht hv hx hx2 e1
      obtain ⟨i0, hi, hz0, hz1, hz2⟩ := info_parts info5
      go_wp2_with fail
      go_region_law
        ((refine step_append_lies _ (by rfl) _ _ _ (by rfl) B 5 i0 _ 1 1 Try.underlying28 hi hz0 hz1 hz2 rfl (by omega) v' l'.length (bys l') (by rfl) ((ho.alloc _).drew)
            ⟨wr.heap.size, 0, none⟩ 1 1 [.int .u8 (x : Int)] (by rfl) (by rfl) (World.news_of_block (cs := #[.int .u8 (x : Int)]) (t := 5) (fr := (0, 0)) (heap_alloc_new wr _)) (by simp [Value.oneCell'])
            (by omega) (by unfold maxLen; omega) (by omega) (by simp; omega) (wr.heap.size + 1) (by simp) ?_; intro gg cap w1 hown1 hgrow hat hlt; have fb := ((hb.alloc (.cells #[.int .u8 (x : Int)] 5)).drewN 1).grown (w' := w1) hgrow (Ne.symm ne); have f0 := fb.frozen 0; have c1 : w1.cell? ⟨g, 0, none⟩ = some v' := fb.cell 0))
      go_wp2
      go_roundw
      case rel => exact ⟨j, by omega, rfl, wstep_next HL.out HT.out HV.out HX.out hx3 hown1 hgrow hat fb⟩
      case measure => simp [intOf]
      case roundEnd => exact ⟨⟨j, by omega, rfl, wstep_next HL.out HT.out HV.out HX.out hx3 hown1 hgrow hat fb⟩, by simp [intOf]⟩

/-- What a writer's call leaves: its state, and that nothing else has turned. -/
def Wrote (w : World) (B g : Nat) (v : Value) (s : Option (List Nat)) (w' : World) : Prop :=
  ∃ v', PW w' B g v' s ∧ Turn (Foot g v) w w' ∧ ∀ b, v'.ownBlock = some b → v.ownBlock = some b ∨ w.heap.size ≤ b
theorem wrote_step {w w' : World} {B g : Nat} {v : Value} {n m : Nat} {l : List Nat} (hB : B ≤ g) (h : WStep w B g v n m l 0 w') : Wrote w B g v (some (l ++ Oc.be m n)) w' := by
  obtain ⟨v', l', hb, ho, hx, hl, ht, hv⟩ := h
  have e : l' = l ++ Oc.be m n := by simpa [Oc.be_zero] using hl
  subst e
  exact ⟨v', ⟨hB, hb, ho, hx⟩, ht, hv⟩
theorem wrote_fail {w : World} {B g : Nat} {v u : Value} (hB : B ≤ g) (h : Lies w g 55 #[v, u]) : Wrote w B g v none ((w.setCell ⟨g, 0, none⟩ (.slice none 0 0)).setCell ⟨g, 1, none⟩ (.int .i64 1)) := by
  refine ⟨.slice none 0 0, ⟨hB, ?_, rfl⟩, ((Turn.refl _ w).setCell (p := ⟨g, 0, none⟩) (.inl (.inl rfl)) _).setCell (p := ⟨g, 1, none⟩) (.inl (.inl rfl)) _, fun b hb => by simp [Value.ownBlock] at hb⟩
  have := (h.set_ 0 (.slice none 0 0)).set_ 1 (.int .i64 1)
  simpa using this

set_option maxHeartbeats 1000000 in
theorem num_err (B g : Nat) (v : Value) (n : Nat) (m : Int) (w : World) (h : PW w B g v none) :
    Calls Try.prog 9 #[.pointer (some ⟨g, 0, none⟩), .int .u64 (n : Int), .int .i64 m] w fun e w' => e = .returned (.tuple #[]) ∧ w = w' := by
  have N := Lib.hid (wworks_no g _ w h.2.1)
  clear h
  go_enter Try.func9, Try.ntmps9
  go_wp2_with fail
  refine N.out.mono ?_
  rintro e w' ⟨rfl, rfl⟩
  go_wp2
  refine bodyPost_ret (results_none rfl _ _ _) rfl ?_
  exact ⟨rfl, rfl⟩
set_option maxHeartbeats 1000000 in
theorem num_size (B g : Nat) (v : Value) (l : List Nat) (n : Nat) (m : Int) (w : World) (h : PW w B g v (some l)) (hm : ¬ (1 ≤ m ∧ m ≤ 8)) :
    Calls Try.prog 9 #[.pointer (some ⟨g, 0, none⟩), .int .u64 (n : Int), .int .i64 m] w fun e w' => e = .returned (.tuple #[]) ∧ Wrote w B g v none w' := by
  have hs : decide (1 ≤ m ∧ m ≤ 8) = false := by simp; omega
  have S := size_any m w
  rw [hs] at S
  have S' := Lib.hid S
  have Y := Lib.hid (wworks_yes g v w h.2.1)
  have F := Lib.hid (fail_any g 55 v _ 1 w h.2.1)
  have W := Lib.hid (wrote_fail h.1 h.2.1)
  clear hs S h hm
  go_enter Try.func9, Try.ntmps9
  go_wp2_with fail
  refine Y.out.mono ?_
  rintro e w' ⟨rfl, rfl⟩
  go_wp2_with fail
  refine S'.out.mono ?_
  rintro e w' ⟨rfl, rfl⟩
  go_wp2_with fail
  refine F.out.mono ?_
  rintro e w' ⟨rfl, rfl⟩
  go_wp2
  refine bodyPost_ret (results_none rfl _ _ _) rfl ?_
  exact ⟨rfl, W.out⟩
set_option maxHeartbeats 1000000 in
theorem num_big (B g : Nat) (v : Value) (l : List Nat) (n m : Nat) (w : World) (h : PW w B g v (some l)) (h1 : 1 ≤ m) (h8 : m ≤ 8) (hf : ¬ n < 256 ^ m) :
    Calls Try.prog 9 #[.pointer (some ⟨g, 0, none⟩), .int .u64 (n : Int), .int .i64 (m : Int)] w fun e w' => e = .returned (.tuple #[]) ∧ Wrote w B g v none w' := by
  have hs : decide (1 ≤ (m : Int) ∧ (m : Int) ≤ 8) = true := by simp; omega
  have S := size_any (m : Int) w
  rw [hs] at S
  have S' := Lib.hid S
  have Y := Lib.hid (wworks_yes g v w h.2.1)
  have F := Lib.hid (fail_any g 55 v _ 1 w h.2.1)
  have W := Lib.hid (wrote_fail h.1 h.2.1)
  have hz : ((n : Int) / 2 ^ (8 * (m : Int)).toNat != 0) = true := by
    have e : (8 * (m : Int)).toNat = 8 * m := by omega
    rw [e, bne_iff_ne]
    have e2 : (256 : Nat) ^ m = 2 ^ (8 * m) := by rw [Nat.pow_mul]
    rw [e2] at hf
    have h0 : 0 < n / 2 ^ (8 * m) := Nat.div_pos (by omega) (Nat.pow_pos (by decide))
    have e3 : ((n : Int) / 2 ^ (8 * m)) = ((n / 2 ^ (8 * m) : Nat) : Int) := by
      rw [Int.natCast_ediv]
      simp
    rw [e3]
    omega
  have hz2 : ((n : Int) / 2 ^ (8 * m) != 0) = true := by
    have e : (8 * (m : Int)).toNat = 8 * m := by omega
    rwa [e] at hz
  clear hs S h hf
  go_enter Try.func9, Try.ntmps9
  go_wp2_with fail
  refine Y.out.mono ?_
  rintro e w' ⟨rfl, rfl⟩
  go_wp2_with fail
  refine S'.out.mono ?_
  rintro e w' ⟨rfl, rfl⟩
  go_wp2_with fail
  refine F.out.mono ?_
  rintro e w' ⟨rfl, rfl⟩
  go_wp2
  refine bodyPost_ret (results_none rfl _ _ _) rfl ?_
  exact ⟨rfl, W.out⟩
theorem wrote_refl {w : World} {B g : Nat} {v : Value} {s : Option (List Nat)} (h : PW w B g v s) : Wrote w B g v s w := ⟨v, h, Turn.refl _ _, fun _ h => .inl h⟩
/-- How many bytes a writer has. -/
def short (s : Option (List Nat)) (n : Nat) : Prop := ∀ l, s = some l → l.length ≤ n
/-- Num of a writer. -/
theorem num_any (B g : Nat) (v : Value) (s : Option (List Nat)) (n : Nat) (m : Int) (w : World) (h : PW w B g v s) (hs : short s 1000000) :
    Calls Try.prog 9 #[.pointer (some ⟨g, 0, none⟩), .int .u64 (n : Int), .int .i64 m] w fun e w' => e = .returned (.tuple #[]) ∧ Wrote w B g v (Oc.wnum s n m) w' := by
  match s, h, hs with
  | none, h, _ => exact (num_err B g v n m w h).mono fun e w' ⟨he, hw⟩ => ⟨he, hw ▸ wrote_refl h⟩
  | some l, h, hs =>
    by_cases hm : 1 ≤ m ∧ m ≤ 8
    · obtain ⟨k, rfl⟩ : ∃ k : Nat, m = k := ⟨m.toNat, by omega⟩
      by_cases hf : n < 256 ^ k
      · rw [Oc.wnum_yes l (Oc.fit_mk hm.1 hm.2 (by simpa using hf))]
        exact (num_yes B g v l n k w h.1 h.2.1 h.2.2.1 h.2.2.2 (by omega) (by omega) hf (hs l rfl)).mono fun e w' ⟨he, hw⟩ => ⟨he, wrote_step h.1 hw⟩
      · rw [Oc.wnum_no l (Oc.fit_no2 (by simpa using hf))]
        exact num_big B g v l n k w h (by omega) (by omega) hf
    · rw [Oc.wnum_no l (Oc.fit_no1 hm)]
      exact num_size B g v l n m w h hm
end Go.Proofs.Ytakkkdmbghdhgaa
