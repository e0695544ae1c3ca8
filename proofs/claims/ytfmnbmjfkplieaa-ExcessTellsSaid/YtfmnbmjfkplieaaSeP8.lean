/- What layer 6's laws lean on of package series, as it is: one value of the bundle. No condition but those written. -/
import Derived.Test.YtfmnbmjfkplieaaSeP7
import Derived.Test.YtfmnbmjfkplieaaSeFace
namespace Go.Proofs.Ytfmnbmjfkplieaa
open Go.RowKit

namespace Se
set_option maxRecDepth 100000 in
theorem pnil_put (r : Rd) (w : World) : Calls Try.prog 22 #[.pointer none, rval r] w fun e w' => e = .returned (.tuple #[.bool false, .int .i64 1]) ∧ Below w.heap.size w w' := by
  have B0 := Lib.hid (alloc_below w (.cells #[.int .i64 r.min, .int .i64 r.seq, .int .i64 r.ten] 37))
  obtain ⟨m, s, t⟩ := r
  unfold rval
  simp only at B0 ⊢
  go_enter Try.func22, Try.ntmps22
  go_wp2
  go_ret2
  exact ⟨rfl, B0.out⟩
theorem pnil_at (m : Int) (w : World) : Calls Try.prog 53 #[.pointer none, .int .i64 m] w fun e w' => e = .returned (.int .i64 0) ∧ Below w.heap.size w w' := by
  go_enter Try.func53, Try.ntmps53
  go_wp2
  go_ret
  exact ⟨rfl, Below.refl _ _⟩
theorem pnil_next (m : Int) (w : World) : Calls Try.prog 50 #[.pointer none, .int .i64 m] w fun e w' => e = .returned (.int .i64 (-1)) ∧ Below w.heap.size w w' := by
  go_enter Try.func50, Try.ntmps50
  go_wp2
  go_ret
  exact ⟨rfl, Below.refl _ _⟩
theorem pnil_all (w : World) : Calls Try.prog 16 #[.pointer none] w fun e w' => e = .returned (.slice none 0 0) ∧ Below w.heap.size w w' := by
  go_enter Try.func16, Try.ntmps16
  go_wp2
  go_ret
  exact ⟨rfl, Below.refl _ _⟩
theorem pnil_clone (w : World) : Calls Try.prog 30 #[.pointer none] w fun e w' => e = .returned (.pointer none) ∧ Below w.heap.size w w' := by
  go_enter Try.func30, Try.ntmps30
  go_wp2
  go_ret
  exact ⟨rfl, Below.refl _ _⟩
/-- A series at a block, with its memory. -/
def PSF (w : World) (B h : Nat) (F : Nat → Prop) (wo ga : Int) (S : List Rd) : Prop := ∃ v, PSer w B h v wo ga S ∧ F = Feet h v
/-- The bundle. -/
def face : Face where
  PS := PSF
  foot := fun ⟨_, hp, e⟩ hk => hp.foot (e ▸ hk)
  turn := fun ⟨v, hp, e⟩ ht hs => ⟨v, hp.turn ht (fun k hk => hs k (e ▸ hk)), e⟩
  new_yes := fun wo ga w hm => (pnew_yes wo ga w hm).mono fun _ _ ⟨he, hp, hb⟩ => ⟨_, _, he, ⟨_, hp, rfl⟩, hb⟩
  new_no := pnew_no
  put := fun B h F wo ga S r w ⟨v, hp, e⟩ hs _ hL => by
    subst e
    refine (pput_any B h v wo ga S r w hp hs (by omega)).mono ?_
    rintro e w' ⟨he, v', hp', ht, hv⟩
    refine ⟨he, Feet h v', ⟨v', hp', rfl⟩, ht, fun k hk => ?_⟩
    rcases hk with rfl | hk
    · exact .inl (.inl rfl)
    · rcases hv k hk with h1 | h1
      · exact .inl (.inr h1)
      · exact .inr h1
  airAt := fun B h F wo ga S m w ⟨v, hp, _⟩ hs hr _ hL _ m1 => pat_any B h v wo ga S m w hp hs hr (by omega) m1
  nextAt := fun B h F wo ga S m w ⟨v, hp, _⟩ hs hr hm hL _ m1 => pnext_any B h v wo ga S m w hp hs hr ⟨(may_of hm).2.2.1, (may_of hm).2.2.2⟩ (by omega) m1
  told := fun B h F wo ga S w ⟨v, hp, _⟩ _ hL => pall_any B h v wo ga S w hp (by omega)
  twin := fun B h F wo ga S w ⟨v, hp, _⟩ _ _ _ hL => (pclone_any B h v wo ga S w hp (by omega)).mono fun _ _ ⟨h', v', he, hp', hb⟩ => ⟨h', _, he, ⟨v', hp', rfl⟩, hb⟩
  nil_put := pnil_put
  nil_at := pnil_at
  nil_next := pnil_next
  nil_told := pnil_all
  nil_twin := pnil_clone
end Se
end Go.Proofs.Ytfmnbmjfkplieaa
