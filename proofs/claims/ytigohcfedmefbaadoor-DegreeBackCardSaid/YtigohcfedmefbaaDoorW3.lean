/- Walks over Parse of package degree: the tenth whose text it is, or the error; for every string. Condition: as in the text of the text functions. -/
import Derived.Test.YtigohcfedmefbaaDoorW2
import Derived.StillTailTactics
import Derived.WalkSpells
import Derived.Outline
import Derived.IntWalk
import Derived.Shelf.Strconv.AtoiErr
import Derived.Deep.RegionWith
namespace Go.Proofs.YtigohcfedmefbaaDoor
open Go.RowKit Go.Sort

theorem parse_short (s : ByteArray) (h : s.size < 3 ∨ 15 < s.size) (hm : s.size ≤ maxLen) (w : World) :
    Calls Tryd.prog 10 #[.string s] w fun e w' => e = .returned (.tuple #[.int .i64 0, .int .i64 2]) ∧ w = w' := by
  unfold maxLen at hm
  rcases h with h | h
  · go_enter Tryd.func10, Tryd.ntmps10
    go_wp2
    go_ret2
    exact ⟨rfl, rfl⟩
  · have h3 : ¬ s.size < 3 := by omega
    go_enter Tryd.func10, Tryd.ntmps10
    go_wp2
    go_ret2
    exact ⟨rfl, rfl⟩

theorem atoi_some (x : ByteArray) (n : Int) (hl : x.size ≤ 18) (h : Lib.atoi x.data.toList = some n) (w : World) :
    Calls Tryd.prog 19 #[.string x] w fun e w' => e = .returned (.tuple #[.int .i64 n, .nilIface]) ∧ Below w.heap.size w w' :=
  (Tryd.strconv_Atoi x n hl h w).mono fun _ _ ⟨he, _, hw⟩ => ⟨he, hw ▸ Joins.below_bytesWorld _ _ _ _ (Nat.le_refl _)⟩

theorem atoi_none (x : ByteArray) (hl : x.size ≤ 18) (h : Lib.atoi x.data.toList = none) (w : World) (hr : Ready w) :
    Calls Tryd.prog 19 #[.string x] w fun e w' => ∃ N, e = .returned (.tuple #[.int .i64 0, .iface 55 (.pointer (some ⟨N, 0, none⟩))]) ∧ Below w.heap.size w w' := by
  obtain ⟨tp, p, hc⟩ := hr.err
  exact (Any.strconv_Atoi_err Tryd.laysC172 x hl h _ w hc (Or.inr ⟨tp, p, rfl⟩)).mono fun e w' ⟨N, he, _, _, hb⟩ => ⟨N, he, hb⟩

def cutS (s : ByteArray) : ByteArray := s.extract 0 (s.size - 2) ++ s.extract (s.size - 2 + 1) s.size
theorem cutS_list (s : ByteArray) (h3 : 3 ≤ s.size) : (cutS s).data.toList = Hf.cutPt s.data.toList := by
  unfold cutS Hf.cutPt
  have hl : s.data.toList.length = s.size := by simp
  have e : s.size - 2 + 1 = s.size - 1 := by omega
  rw [Joins.data_append, hl, e]
  simp [List.extract_eq_take_drop]
  rw [List.take_of_length_le]
  simp
theorem cutS_size (s : ByteArray) (h3 : 3 ≤ s.size) (h15 : s.size ≤ 15) : (cutS s).size ≤ 18 := by
  unfold cutS
  simp
  omega

theorem cut_none (s : ByteArray) (h3 : 3 ≤ s.size) (h15 : s.size ≤ 15) (hn : Lib.atoi (Hf.cutPt s.data.toList) = none) (w : World) (hr : Ready w) :
    Calls Tryd.prog 19 #[.string (s.extract 0 (s.size - 2) ++ s.extract (s.size - 2 + 1) s.size)] w fun e w' => ∃ N, e = .returned (.tuple #[.int .i64 0, .iface 55 (.pointer (some ⟨N, 0, none⟩))]) ∧ Below w.heap.size w w' :=
  atoi_none (cutS s) (cutS_size s h3 h15) (by rw [cutS_list s h3]; exact hn) w hr
theorem cut_some (s : ByteArray) (h3 : 3 ≤ s.size) (h15 : s.size ≤ 15) (n : Int) (hn : Lib.atoi (Hf.cutPt s.data.toList) = some n) (w : World) :
    Calls Tryd.prog 19 #[.string (s.extract 0 (s.size - 2) ++ s.extract (s.size - 2 + 1) s.size)] w fun e w' => e = .returned (.tuple #[.int .i64 n, .nilIface]) ∧ Below w.heap.size w w' :=
  atoi_some (cutS s) n (cutS_size s h3 h15) (by rw [cutS_list s h3]; exact hn) w

set_option maxHeartbeats 1000000 in
/-- Parse of what is no number without its point. -/
theorem parse_err (s : ByteArray) (h3 : 3 ≤ s.size) (h15 : s.size ≤ 15) (hn : Lib.atoi (Hf.cutPt s.data.toList) = none) (w : World) (hr : Ready w) :
    Calls Tryd.prog 10 #[.string s] w fun e w' => e = .returned (.tuple #[.int .i64 0, .int .i64 2]) ∧ Below w.heap.size w w' := by
  have hr2 := hr.on (Below.refl _ _).drew
  have HN := Lib.hid hn
  clear hn
  have b1 : (0 : Int) ≤ (s.size : Int) - 2 := by omega
  have b2 : (s.size : Int) - 2 ≤ s.size := by omega
  have b3 : (0 : Int) ≤ (s.size : Int) - 2 + 1 := by omega
  have b4 : (s.size : Int) - 2 + 1 ≤ s.size := by omega
  have b5 : (s.extract 0 (s.size - 2)).size ≤ 15 := by simp; omega
  have b6 : (s.extract (s.size - 2 + 1) s.size).size ≤ 15 := by simp; omega
  have b7 : IntKind.i64.wrap ((s.size : Int) - 2 + 1) = (s.size : Int) - 2 + 1 := IntWalk.i64_in _ (by omega)
  have b8 : ((s.size : Int) - 2 + 1).toNat = s.size - 2 + 1 := by omega
  have b9 : ((s.size : Int) - 2).toNat = s.size - 2 := by omega
  go_enter Tryd.func10, Tryd.ntmps10
  go_wp2
  go_region_with (go_at_call 19; (with_reducible refine (cut_none s h3 h15 HN.out _ hr2).mono ?_); rintro e w' ⟨N, rfl, hb⟩)
  go_wp2
  go_ret2
  exact ⟨rfl, ((Below.refl _ _).drew).trans hb⟩

set_option maxHeartbeats 1000000 in
/-- Parse of a text that is its number's own. -/
theorem parse_good (s : ByteArray) (h3 : 3 ≤ s.size) (h15 : s.size ≤ 15) (n : Int) (hn : Lib.atoi (Hf.cutPt s.data.toList) = some n) (w : World) (hr : Ready w)
    (hT : ∀ W, Ready W → Calls Tryd.prog 12 #[.int .i64 n] W fun e w' => e = .returned (.string s) ∧ Below W.heap.size W w') :
    Calls Tryd.prog 10 #[.string s] w fun e w' => e = .returned (.tuple #[.int .i64 n, .int .i64 0]) ∧ Below w.heap.size w w' := by
  have HN := Lib.hid hn
  have HT := Lib.hid hT
  clear hn hT
  have b1 : (0 : Int) ≤ (s.size : Int) - 2 := by omega
  have b2 : (s.size : Int) - 2 ≤ s.size := by omega
  have b3 : (0 : Int) ≤ (s.size : Int) - 2 + 1 := by omega
  have b4 : (s.size : Int) - 2 + 1 ≤ s.size := by omega
  have b5 : (s.extract 0 (s.size - 2)).size ≤ 15 := by simp; omega
  have b6 : (s.extract (s.size - 2 + 1) s.size).size ≤ 15 := by simp; omega
  have b7 : IntKind.i64.wrap ((s.size : Int) - 2 + 1) = (s.size : Int) - 2 + 1 := IntWalk.i64_in _ (by omega)
  have b8 : ((s.size : Int) - 2 + 1).toNat = s.size - 2 + 1 := by omega
  have b9 : ((s.size : Int) - 2).toNat = s.size - 2 := by omega
  have hr2 := hr.on (Below.refl _ _).drew
  go_enter Tryd.func10, Tryd.ntmps10
  go_wp2
  go_region_with (go_at_call 19; (with_reducible refine (cut_some s h3 h15 n HN.out _).mono ?_); rintro e w1 ⟨rfl, hb⟩)
  have hr3 := hr2.on hb
  have hb3 := ((Below.refl w.heap.size w).drew).trans hb
  clear hb b1 b2 b3 b4 b5 b6 b7 b8 b9
  go_wp2_with (go_at_call 12; refine (HT.out _ hr3).mono ?_; rintro e w2 ⟨rfl, hb4⟩)
  go_ret2
  exact ⟨rfl, hb3.trans (hb4.mono hb3.size)⟩

set_option maxHeartbeats 1000000 in
/-- Parse of a text that is not its number's own. -/
theorem parse_bad (s : ByteArray) (h3 : 3 ≤ s.size) (h15 : s.size ≤ 15) (n : Int) (hn : Lib.atoi (Hf.cutPt s.data.toList) = some n) (w : World) (hr : Ready w)
    (x : ByteArray) (hx : (!x.toList == s.toList) = true) (hT : ∀ W, Ready W → Calls Tryd.prog 12 #[.int .i64 n] W fun e w' => e = .returned (.string x) ∧ Below W.heap.size W w') :
    Calls Tryd.prog 10 #[.string s] w fun e w' => e = .returned (.tuple #[.int .i64 0, .int .i64 2]) ∧ Below w.heap.size w w' := by
  have HN := Lib.hid hn
  have HT := Lib.hid hT
  clear hn hT
  have b1 : (0 : Int) ≤ (s.size : Int) - 2 := by omega
  have b2 : (s.size : Int) - 2 ≤ s.size := by omega
  have b3 : (0 : Int) ≤ (s.size : Int) - 2 + 1 := by omega
  have b4 : (s.size : Int) - 2 + 1 ≤ s.size := by omega
  have b5 : (s.extract 0 (s.size - 2)).size ≤ 15 := by simp; omega
  have b6 : (s.extract (s.size - 2 + 1) s.size).size ≤ 15 := by simp; omega
  have b7 : IntKind.i64.wrap ((s.size : Int) - 2 + 1) = (s.size : Int) - 2 + 1 := IntWalk.i64_in _ (by omega)
  have b8 : ((s.size : Int) - 2 + 1).toNat = s.size - 2 + 1 := by omega
  have b9 : ((s.size : Int) - 2).toNat = s.size - 2 := by omega
  have hr2 := hr.on (Below.refl _ _).drew
  go_enter Tryd.func10, Tryd.ntmps10
  go_wp2
  go_region_with (go_at_call 19; (with_reducible refine (cut_some s h3 h15 n HN.out _).mono ?_); rintro e w1 ⟨rfl, hb⟩)
  have hr3 := hr2.on hb
  have hb3 := ((Below.refl w.heap.size w).drew).trans hb
  clear hb b1 b2 b3 b4 b5 b6 b7 b8 b9
  go_wp2_with (go_at_call 12; refine (HT.out _ hr3).mono ?_; rintro e w2 ⟨rfl, hb4⟩)
  go_ret2
  exact ⟨rfl, hb3.trans (hb4.mono hb3.size)⟩
end Go.Proofs.YtigohcfedmefbaaDoor
