/- slices.Sorted(maps.Keys(m)) at package master's maps: the numbers of what there is, in order. No condition but those written. -/
import Derived.Test.YtpceoklacpcfkaaMsMap
import Derived.Test.YtpceoklacpcfkaaIter
namespace Go.Proofs.Ytpceoklacpcfkaa
open Go.RowKit Go.Maps Go.Sort

namespace Ms
theorem sorts (m : Nat) : AnyZI.SortsIn Try.prog Try.sortedA_ren Fence.wide m :=
  ⟨fun blk off cap ss W hH hblk hsz => callsIn_wide.2 (AnyM.slices_Sort_int Try.sortA blk off cap ss W hH hblk hsz),
   fun p cap W => callsIn_wide.2 (AnyM.slices_Sort_int_none Try.sortA p cap W)⟩
theorem own_floor {w : World} {B B' : Nat} {e : TypeId} {k n : Nat} {v : Value} {xs : List Value} (h : w.ownsRow B e k v n xs) (hb : B' ≤ B) : w.ownsRow B' e k v n xs := by
  refine ⟨h.1, ?_⟩
  rcases h.2 with h0 | ⟨g, cap, cur, e1, h1, h2⟩
  · exact .inl h0
  · exact .inr ⟨g, cap, cur, e1, Nat.le_trans hb h1, h2⟩
def kcells {α : Type} (key : α → Int) (x : α) : List Value := [.int .i64 (key x)]
theorem kcells_len {α : Type} (key : α → Int) (x : α) : (kcells key x).length = 1 := rfl
theorem kflat {α : Type} (key : α → Int) (S : List α) : (S.map key).map encZ = S.flatMap (kcells key) := by
  induction S with
  | nil => rfl
  | cons x S ih => rw [List.map_cons, List.map_cons, ih, List.flatMap_cons]; rfl
/-- The numbers, in order: a new slice. -/
def NumsEnd {α : Type} (key : α → Int) (S : List α) (W : World) (e : Ending) (w' : World) : Prop := ∃ v, e = .returned v ∧ w'.ownsRow W.heap.size 3 1 v S.length (S.flatMap (kcells key)) ∧ Below W.heap.size W w'
theorem keysZ_any (mo : Option Nat) (w : World) : Calls Try.prog 34 #[.map mo] w fun e w' =>
    e = .returned (.func (.func 38) #[] #[.pointer (some ⟨w.heap.size, 0, none⟩)]) ∧ w' = w.alloc (.cells #[.map mo] 47) :=
  callsIn_wide.1 (AnyZI.keys_in Try.keysA Fence.wide 5 trivial rfl mo w)
set_option maxHeartbeats 1000000 in
theorem sortedZ_any {α : Type} {Fm : Form α} {key : α → Int} {w : World} {B : Nat} {mo : Option Nat} {S : List α} (ht : Tab Fm key w B mo S) (hS : Ord key S) (hL : S.length ≤ 1000) :
    Calls Try.prog 33 #[.func (.func 38) #[] #[.pointer (some ⟨w.heap.size, 0, none⟩)]] (w.alloc (.cells #[.map mo] 47)) (NumsEnd key S (w.alloc (.cells #[.map mo] 47))) := by
  refine (callsIn_wide (n := 5)).1 ?_
  rcases ht with ⟨rfl, rfl⟩ | ⟨b, D, rfl, _, hown, hM⟩
  · have hseq : SeqGives Fence.wide 2 Try.prog 38 #[.pointer (some ⟨w.heap.size, 0, none⟩)] encZ (fun ss : List Int => ss = []) 0 (w.alloc (.cells #[.map none] 47)) :=
      AnyZI.keys_gives_nil (ρ := Try.keysA_ren) { Try.keysA with } Fence.wide _ trivial rfl w.heap.size _ (by simp) (by simp)
    have cS := AnyZI.sorted_in Try.sortedA Fence.wide 5 trivial trivial trivial trivial rfl (by omega) (sorts _) (enters_of Try.func37 (by kernel_rfl) rfl) 38 #[.pointer (some ⟨w.heap.size, 0, none⟩)] trivial (enters_of Try.func38 (by kernel_rfl) rfl) _ 0 (Nat.zero_le _) (by omega) _ hseq
    refine cS.mono ?_
    rintro e w' ⟨v, ss, rfl, rfl, hrow, hnil, hb⟩
    rw [List.mergeSort_nil] at hrow
    exact ⟨v, rfl, hrow, hb⟩
  · have hbl := hown.lt
    have hseq : SeqGives Fence.wide 2 Try.prog 38 #[.pointer (some ⟨w.heap.size, 0, none⟩)] encZ (fun ss => ss.Perm (intKeys D)) (Maps.size D) (w.alloc (.cells #[.map (some b)] 47)) :=
      AnyZI.keys_gives (ρ := Try.keysA_ren) { Try.keysA with } Fence.wide _ trivial rfl (by omega) w.heap.size b S.length D _ (by simp) (by simp) (own_like hown (Below.heap_alloc _ _ b hbl))
    have cS := AnyZI.sorted_in Try.sortedA Fence.wide 5 trivial trivial trivial trivial rfl (by omega) (sorts _) (enters_of Try.func37 (by kernel_rfl) rfl) 38 #[.pointer (some ⟨w.heap.size, 0, none⟩)] trivial (enters_of Try.func38 (by kernel_rfl) rfl) _ _ (by rw [hM.size]; unfold maxLen; omega) (by rw [hM.size]; omega) _ hseq
    refine cS.mono ?_
    rintro e w' ⟨v, ss, rfl, hp, hrow, hnil, hb⟩
    obtain ⟨h1, h2⟩ := mp_keys hown hM hS hp
    rw [h1, h2, kflat] at hrow
    exact ⟨v, rfl, hrow, hb⟩
theorem keysP_any (mo : Option Nat) (w : World) : Calls Try.prog 35 #[.map mo] w fun e w' =>
    e = .returned (.func (.func 39) #[] #[.pointer (some ⟨w.heap.size, 0, none⟩)]) ∧ w' = w.alloc (.cells #[.map mo] 50) :=
  callsIn_wide.1 (AnyZI.keys_in Try.keysB Fence.wide 5 trivial rfl mo w)
set_option maxHeartbeats 1000000 in
theorem sortedP_any {α : Type} {Fm : Form α} {key : α → Int} {w : World} {B : Nat} {mo : Option Nat} {S : List α} (ht : Tab Fm key w B mo S) (hS : Ord key S) (hL : S.length ≤ 1000) :
    Calls Try.prog 33 #[.func (.func 39) #[] #[.pointer (some ⟨w.heap.size, 0, none⟩)]] (w.alloc (.cells #[.map mo] 50)) (NumsEnd key S (w.alloc (.cells #[.map mo] 50))) := by
  refine (callsIn_wide (n := 5)).1 ?_
  rcases ht with ⟨rfl, rfl⟩ | ⟨b, D, rfl, _, hown, hM⟩
  · have hseq : SeqGives Fence.wide 2 Try.prog 39 #[.pointer (some ⟨w.heap.size, 0, none⟩)] encZ (fun ss : List Int => ss = []) 0 (w.alloc (.cells #[.map none] 50)) :=
      AnyZI.keys_gives_nil (ρ := Try.keysB_ren) { Try.keysB with } Fence.wide _ trivial rfl w.heap.size _ (by simp) (by simp)
    have cS := AnyZI.sorted_in Try.sortedA Fence.wide 5 trivial trivial trivial trivial rfl (by omega) (sorts _) (enters_of Try.func37 (by kernel_rfl) rfl) 39 #[.pointer (some ⟨w.heap.size, 0, none⟩)] trivial (enters_of Try.func39 (by kernel_rfl) rfl) _ 0 (Nat.zero_le _) (by omega) _ hseq
    refine cS.mono ?_
    rintro e w' ⟨v, ss, rfl, rfl, hrow, hnil, hb⟩
    rw [List.mergeSort_nil] at hrow
    exact ⟨v, rfl, hrow, hb⟩
  · have hbl := hown.lt
    have hseq : SeqGives Fence.wide 2 Try.prog 39 #[.pointer (some ⟨w.heap.size, 0, none⟩)] encZ (fun ss => ss.Perm (intKeys D)) (Maps.size D) (w.alloc (.cells #[.map (some b)] 50)) :=
      AnyZI.keys_gives (ρ := Try.keysB_ren) { Try.keysB with } Fence.wide _ trivial rfl (by omega) w.heap.size b S.length D _ (by simp) (by simp) (own_like hown (Below.heap_alloc _ _ b hbl))
    have cS := AnyZI.sorted_in Try.sortedA Fence.wide 5 trivial trivial trivial trivial rfl (by omega) (sorts _) (enters_of Try.func37 (by kernel_rfl) rfl) 39 #[.pointer (some ⟨w.heap.size, 0, none⟩)] trivial (enters_of Try.func39 (by kernel_rfl) rfl) _ _ (by rw [hM.size]; unfold maxLen; omega) (by rw [hM.size]; omega) _ hseq
    refine cS.mono ?_
    rintro e w' ⟨v, ss, rfl, hp, hrow, hnil, hb⟩
    obtain ⟨h1, h2⟩ := mp_keys hown hM hS hp
    rw [h1, h2, kflat] at hrow
    exact ⟨v, rfl, hrow, hb⟩
end Ms
end Go.Proofs.Ytpceoklacpcfkaa
