/- Walks over a writer's other calls in package octets. -/
import Derived.Test.YtakkkdmbghdhgaaW2
import Derived.Test.YtakkkdmbghdhgaaClone
import Derived.Deep.RegionHeld3
namespace Go.Proofs.Ytakkkdmbghdhgaa
open Go.RowKit

theorem new_any (w : World) : Calls Try.prog 8 #[] w fun e w' => e = .returned (.pointer (some ⟨w.heap.size, 0, none⟩)) ∧ w' = w.alloc (.cells #[.slice none 0 0, .int .i64 0] 55) := by
  go_enter Try.func8, Try.ntmps8
  go_wp2
  go_ret
  exact ⟨rfl, rfl⟩
theorem new_pw (w : World) (B : Nat) (hB : B ≤ w.heap.size) : PW (w.alloc (.cells #[.slice none 0 0, .int .i64 0] 55)) B w.heap.size (.slice none 0 0) (some []) :=
  ⟨hB, Lies.new w 55 _, ⟨rfl, .inl ⟨rfl, rfl⟩⟩, fun x hx => by simp at hx⟩
theorem int_any (B g : Nat) (v : Value) (s : Option (List Nat)) (i : Int) (n : Nat) (w : World) (h : PW w B g v s) (hi : IntKind.u64.wrap i = (n : Int)) (hs : short s 1000000) :
    Calls Try.prog 11 #[.pointer (some ⟨g, 0, none⟩), .int .i64 i] w fun e w' => e = .returned (.tuple #[]) ∧ Wrote w B g v (Oc.wnum s n 8) w' := by
  have N := Lib.hid (num_any B g v s n 8 w h hs)
  clear h
  go_enter Try.func11, Try.ntmps11
  go_wp2_with fail
  refine N.out.mono ?_
  rintro e w' ⟨rfl, hw⟩
  have HW := Lib.hid hw
  clear hw
  go_wp2
  go_end0
  exact ⟨rfl, HW.out⟩
theorem bool_any (B g : Nat) (v : Value) (s : Option (List Nat)) (b : Bool) (w : World) (h : PW w B g v s) (hs : short s 1000000) :
    Calls Try.prog 13 #[.pointer (some ⟨g, 0, none⟩), .bool b] w fun e w' => e = .returned (.tuple #[]) ∧ Wrote w B g v (Oc.wnum s (if b then 1 else 0) 1) w' := by
  have N1 := Lib.hid (num_any B g v s 1 1 w h hs)
  have N0 := Lib.hid (num_any B g v s 0 1 w h hs)
  clear h
  cases b
  · go_enter Try.func13, Try.ntmps13
    go_wp2_with fail
    refine N0.out.mono ?_
    rintro e w' ⟨rfl, hw⟩
    have HW := Lib.hid hw
    clear hw
    go_wp2
    go_end0
    exact ⟨rfl, HW.out⟩
  · go_enter Try.func13, Try.ntmps13
    go_wp2_with fail
    refine N1.out.mono ?_
    rintro e w' ⟨rfl, hw⟩
    have HW := Lib.hid hw
    clear hw
    go_wp2
    go_end0
    exact ⟨rfl, HW.out⟩
theorem nil_num (n m : Int) (w : World) : Calls Try.prog 9 #[.pointer none, .int .u64 n, .int .i64 m] w fun e w' => e = .returned (.tuple #[]) ∧ w = w' := by
  go_enter Try.func9, Try.ntmps9
  go_wp2_with fail
  refine (wworks_nil w).mono ?_
  rintro e w' ⟨rfl, rfl⟩
  go_wp2
  refine bodyPost_ret (results_none rfl _ _ _) rfl ?_
  exact ⟨rfl, rfl⟩
theorem nil_run (p : Option Addr) (n c : Nat) (w : World) (hn : n ≤ 1000000) : Calls Try.prog 15 #[.pointer none, .slice p n c] w fun e w' => e = .returned (.tuple #[]) ∧ w = w' := by
  go_enter Try.func15, Try.ntmps15
  go_wp2_with fail
  refine (nil_num _ _ w).mono ?_
  rintro e w' ⟨rfl, rfl⟩
  go_wp2_with fail
  refine (wworks_nil w).mono ?_
  rintro e w' ⟨rfl, rfl⟩
  go_wp2
  go_end0
  exact ⟨rfl, rfl⟩
theorem nil_done (w : World) : Calls Try.prog 17 #[.pointer none] w fun e w' => e = .returned (.tuple #[.slice none 0 0, .int .i64 1]) ∧ w = w' := by
  go_enter Try.func17, Try.ntmps17
  go_wp2
  go_ret2
  exact ⟨rfl, rfl⟩

theorem own_slice {w : World} {base : Nat} {e : TypeId} {size n : Nat} {v : Value} {xs : List Value} (h : w.ownsRow base e size v n xs) : ∃ q d, v = .slice q n d := by
  rcases h.2 with ⟨rfl, rfl⟩ | ⟨g, cap, cur, rfl, _⟩
  · exact ⟨none, 0, rfl⟩
  · exact ⟨_, _, rfl⟩
theorem wrote_trans {w w1 w2 : World} {B g : Nat} {v v1 : Value} {s : Option (List Nat)} (ht : Turn (Foot g v) w w1) (hv : ∀ b, v1.ownBlock = some b → v.ownBlock = some b ∨ w.heap.size ≤ b) (h : Wrote w1 B g v1 s w2) : Wrote w B g v s w2 := by
  obtain ⟨v2, hp, ht2, hv2⟩ := h
  have hs := ht.size
  refine ⟨v2, hp, ht.trans ht2 (fun i hi => ?_), fun b hb => ?_⟩
  · rcases hi with rfl | hi
    · exact .inl (.inl rfl)
    · exact (hv i hi).elim (fun h => .inl (.inr h)) .inr
  · rcases hv2 b hb with h | h
    · exact hv b h
    · right
      omega
/-- What an append, and its store, leave. -/
theorem wrote_app {w w1 : World} {B g n : Nat} {v v1 : Value} {l b : List Nat} (hB : B ≤ g) (hb : Lies w g 55 #[v, .int .i64 0]) (ho : w.ownsRow B 5 1 v l.length (bys l)) (hx : ∀ x ∈ l, x < 256) (hxb : ∀ x ∈ b, x < 256) (hn : b.length = n)
    (hown : w1.ownsRow B 5 1 v1 (l.length + n) (bys l ++ bys b)) (hg : w.grownBy w1 v.ownBlock) (hat : v1.ownBlock = v.ownBlock ∨ v1.ownBlock = some w.heap.size) : Wrote w B g v (some (l ++ b)) (w1.setCell ⟨g, 0, none⟩ v1) := by
  have lg := hb.lt
  have fb := hb.grown hg (Ne.symm (own_blk_ne ho hb (by decide)))
  refine ⟨v1, ⟨hB, by simpa using fb.set_ 0 v1, ?_, Oc.mem_app hx hxb⟩, ?_, ?_⟩
  · subst hn
    rw [List.length_append, bys_append]
    refine own_turn hown ((Turn.refl (fun k => k = g) w1).setCell (p := ⟨g, 0, none⟩) (.inl rfl) _) (fun k hk e => ?_)
    subst e
    exact own_blk_ne hown fb (by decide) hk
  · exact ((Turn.refl (Foot g v) w).grown hg (fun k hk => .inl (.inr hk))).setCell (p := ⟨g, 0, none⟩) (.inl (.inl rfl)) _
  · intro k hk
    rcases hat with e | e
    · exact .inl (by rw [← e]; exact hk)
    · rw [e] at hk
      right
      have : w.heap.size = k := by simpa using hk
      omega
set_option maxHeartbeats 1000000 in
theorem run_any (B g : Nat) (v : Value) (s : Option (List Nat)) (p : Option Addr) (n c : Nat) (b : List Nat) (w : World) (h : PW w B g v s) (hs : short s 900000) (hn : n ≤ 1000000) (hA : At w p n b) (hp : 0 < n → ∀ a, p = some a → ¬ Foot g v a.block) :
    Calls Try.prog 15 #[.pointer (some ⟨g, 0, none⟩), .slice p n c] w fun e w' => e = .returned (.tuple #[]) ∧ Wrote w B g v (Oc.wrun s b) w' := by
  have N := num_any B g v s n 4 w h (fun l hl => Nat.le_trans (hs l hl) (by decide))
  have hlb : b.length = n := hA.1
  have HA := Lib.hid hA
  have HP := Lib.hid hp
  have E : Hid (∀ w', Wrote w B g v (Oc.wnum s n 4) w' → (Oc.wrun s b = none ∧ Wrote w B g v none w') ∨ ∃ L, Hid (Oc.wrun s b = some (L ++ b)) ∧ L.length ≤ 900004 ∧ Wrote w B g v (some L) w') := by
    intro w' hw
    match s, hw with
    | none, hw => exact .inl ⟨rfl, hw⟩
    | some l, hw =>
      have hf : Oc.fitB n 4 = true := Oc.fit_mk (by decide) (by decide) (by show n < 256 ^ 4; omega)
      rw [Oc.wnum_yes l hf] at hw
      refine .inr ⟨l ++ Oc.be 4 n, ?_, ?_, hw⟩
      · unfold Oc.wrun
        rw [hlb, Oc.wnum_yes l hf]
        exact Lib.hid rfl
      · have := hs l rfl
        simp [Oc.be_length]
        omega
  have N' := Lib.hid N
  clear N h hA hp
  go_enter Try.func15, Try.ntmps15
  go_wp2_with fail
  refine N'.out.mono ?_
  rintro e w1 ⟨rfl, hw⟩
  rcases E.out w1 hw with ⟨hs0, hw1⟩ | ⟨L, HS, hL, v1, hpw, ht, hv⟩
  · have HW := Lib.hid hw1
    have HS := Lib.hid hs0
    obtain ⟨v1, hpw, _⟩ := hw1
    have Y := Lib.hid (wworks_no g _ w1 hpw.2.1)
    clear hw hs0 hpw
    go_wp2_with fail
    refine Y.out.mono ?_
    rintro e w' ⟨rfl, rfl⟩
    go_wp2
    go_end0
    exact ⟨rfl, by rw [HS.out]; exact HW.out⟩
  · have hb := hpw.2.1
    have c0 : w1.cell? ⟨g, 0, none⟩ = some v1 := hb.cell 0
    have ho := hpw.2.2.1
    have ne := own_blk_ne ho hb (by decide)
    have HPW := Lib.hid hpw
    have HT := Lib.hid ht
    have HV := Lib.hid hv
    have A1 := Lib.hid (HA.out.turn' ht HP.out)
    have HB := Lib.hid hb
    have HO := Lib.hid ho
    have Y := Lib.hid (wworks_yes g _ w1 hb)
    have NE := Lib.hid ne
    clear hw hpw ht hv hb ho ne
    go_wp2_with fail
    refine Y.out.mono ?_
    rintro e w' ⟨rfl, rfl⟩
    go_wp2_with (at_builtin; refine wpList_app rfl (.tmp 16) (.tmp 17) rfl B v1 _ _ rfl HO.out p n c b rfl A1.out (by omega) (Nat.le_trans HPW.out.1 (Nat.le_of_lt HB.out.lt)) ?_; intro v2 w2 hown2 hg2 hat2; obtain ⟨q2, d2, rfl⟩ := own_slice hown2; have fb := HB.out.grown hg2 (Ne.symm NE.out); have f0 := fb.frozen 0; have d0 : w2.cell? ⟨g, 0, none⟩ = some v1 := fb.cell 0; have HO2 := Lib.hid hown2; have HG2 := Lib.hid hg2; have HAT := Lib.hid hat2; clear hown2 hg2 hat2 fb)
    go_end0
    refine ⟨rfl, ?_⟩
    rw [HS.out]
    exact wrote_trans HT.out HV.out (wrote_app HPW.out.1 HB.out HO.out HPW.out.2.2.2 A1.out.2.1 hlb HO2.out HG2.out HAT.out)

set_option maxHeartbeats 1000000 in
theorem done_at (g n c : Nat) (p : Option Addr) (u : Int) (l : List Nat) (w : World) (h : Lies w g 55 #[.slice p n c, .int .i64 u]) (hn : n ≤ 1000000) (hA : At w p n l) :
    Calls Try.prog 17 #[.pointer (some ⟨g, 0, none⟩)] w fun e w' => ∃ q d, e = .returned (.tuple #[.slice q n d, .int .i64 u]) ∧ n ≤ d ∧ At w' q n l ∧ Below w.heap.size w w' := by
  have lg := h.lt
  have c0 : w.cell? ⟨g, 0, none⟩ = some (.slice p n c) := h.cell 0
  have c1 : w.cell? ⟨g, 1, none⟩ = some (.int .i64 u) := h.cell 1
  have C := Lib.hid (clone_any p n c l w.drew hn (hA.drewN 1))
  have HA := Lib.hid hA
  have HB := Lib.hid h
  clear hA h
  go_enter Try.func17, Try.ntmps17
  go_wp2_with fail
  go_region_held3 (fun w' => w'.cell? ⟨g, 0, none⟩ = some (.slice p n c) ∧ w'.cell? ⟨g, 1, none⟩ = some (.int .i64 u))
    (first | go_keep | exact ⟨d0, d1⟩)
    ((refine C.out.mono ?_; rintro e w1 ⟨q, d, rfl, hd, hA1, hb⟩; have fb := (HB.out.drewN 1).below hb lg; have d0 : w1.cell? ⟨g, 0, none⟩ = some (.slice p n c) := fb.cell 0; have d1 : w1.cell? ⟨g, 1, none⟩ = some (.int .i64 u) := fb.cell 1))
  all_goals
    go_wp2
    go_ret2
    exact ⟨q, d, rfl, hd, hA1, below_drewN (Below.refl _ w) 1 |>.trans hb⟩
/-- What a writer tells at the end. -/
def told (s : Option (List Nat)) : List Nat := s.getD []
def toldE (s : Option (List Nat)) : Int := if s.isSome then 0 else 1
theorem done_any (B g : Nat) (v : Value) (s : Option (List Nat)) (w : World) (h : PW w B g v s) (hs : short s 1000000) :
    Calls Try.prog 17 #[.pointer (some ⟨g, 0, none⟩)] w fun e w' => ∃ q d, e = .returned (.tuple #[.slice q (told s).length d, .int .i64 (toldE s)]) ∧ (told s).length ≤ d ∧ At w' q (told s).length (told s) ∧ Below w.heap.size w w' := by
  match s, h, hs with
  | none, h, _ =>
    exact done_at g 0 0 none 1 [] w h.2.1 (by decide) (at_nil w)
  | some l, h, hs =>
    obtain ⟨q, c, rfl, hc, hA⟩ := at_own rfl h.2.2.2 h.2.2.1
    exact done_at g l.length c q 0 l w h.2.1 (hs l rfl) hA
end Go.Proofs.Ytakkkdmbghdhgaa
