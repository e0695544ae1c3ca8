/- Walks over the document's answer of layer 6: a reading is put. No condition but those written. -/
import Derived.Test.YtfmnbmjfkplieaaSe1
import Derived.Deep.RegionLaw
import Derived.Deep.AppendLies
import Derived.ChangeAlike
import Derived.BigRegion
import Derived.StillTailTactics
namespace Go.Proofs.Ytfmnbmjfkplieaa
open Go.RowKit

namespace Se
theorem infoR : (Try.prog.info? 37).map (fun i => (i.zero, i.size, i.bytes)) = some (some (.agg #[.int .i64 0, .int .i64 0, .int .i64 0]), 3, 24) := by kernel_rfl
/-- The document's series: at block g, its readings' slice v. -/
def RSer (w : World) (B g : Nat) (v : Value) (wo ga : Int) (L : List Rd) : Prop :=
  B ≤ g ∧ Lies w g 33 #[.int .i64 wo, .int .i64 ga, v] ∧ w.ownsRow B 37 3 v L.length (L.flatMap rcells)
theorem RSer.turn {w w' : World} {B g : Nat} {v : Value} {wo ga : Int} {L : List Rd} {S : Nat → Prop} (h : RSer w B g v wo ga L) (ht : Turn S w w') (hs : ∀ k, Feet g v k → ¬ S k) : RSer w' B g v wo ga L :=
  ⟨h.1, h.2.1.turn ht (hs g (.inl rfl)), own_turn h.2.2 ht (fun k hk => hs k (.inr hk))⟩
theorem RSer.foot {w : World} {B g : Nat} {v : Value} {wo ga : Int} {L : List Rd} (h : RSer w B g v wo ga L) {k : Nat} (hk : Feet g v k) : B ≤ k ∧ k < w.heap.size := by
  rcases hk with rfl | hk
  · exact ⟨h.1, h.2.1.lt⟩
  · exact own_lt h.2.2 hk
theorem RSer.below {w w' : World} {B g : Nat} {v : Value} {wo ga : Int} {L : List Rd} (h : RSer w B g v wo ga L) (hb : Below w.heap.size w w') : RSer w' B g v wo ga L :=
  h.turn (S := fun _ => False) (Turn.of_below hb) (fun _ _ hf => hf)
/-- What a call leaves that writes. -/
def RPut (w : World) (B g : Nat) (v : Value) (wo ga : Int) (L : List Rd) (w' : World) : Prop :=
  ∃ v', RSer w' B g v' wo ga L ∧ Turn (Feet g v) w w' ∧ ∀ b, v'.ownBlock = some b → v.ownBlock = some b ∨ w.heap.size ≤ b
theorem rput_below {w wi w' : World} {B g : Nat} {v : Value} {wo ga : Int} {L L' : List Rd} (hp : RSer wi B g v wo ga L) (hb : Below B w wi) (h : RPut wi B g v wo ga L' w') : ∃ v', RSer w' B g v' wo ga L' ∧ Below B w w' := by
  obtain ⟨v', hp', ht, _⟩ := h
  exact ⟨v', hp', ht.below hb (Nat.le_trans hp.1 (Nat.le_of_lt (hp.foot (.inl rfl)).2)) (fun i hi => (hp.foot hi).1)⟩
set_option maxRecDepth 100000 in
set_option maxHeartbeats 1000000 in
theorem rput_no (B g : Nat) (v : Value) (wo ga : Int) (L : List Rd) (r : Rd) (w : World) (h : RSer w B g v wo ga L) (hr : rightB r = false) :
    Calls Try.prog 11 #[.pointer (some ⟨g, 0, none⟩), rval r] w fun e w' => e = .returned (.tuple #[.bool false, .int .i64 1]) ∧ RPut w B g v wo ga L w' := by
  have R := Lib.hid (fun W => rright_any r W)
  rw [hr] at R
  have H := Lib.hid h
  have B0 := Lib.hid (alloc_below w (.cells #[.int .i64 r.min, .int .i64 r.seq, .int .i64 r.ten] 37))
  clear h hr
  obtain ⟨m, s, t⟩ := r
  unfold rval at *
  simp only at *
  go_enter Try.func11, Try.ntmps11
  go_wp2_with fail
  refine (R.out _).mono ?_
  rintro e w1 ⟨rfl, hb⟩
  have B1 := Lib.hid (B0.out.trans (hb.mono B0.out.size))
  clear hb
  go_wp2
  go_ret2
  exact ⟨rfl, v, H.out.below B1.out, Turn.of_below B1.out, fun _ h => .inl h⟩
theorem rput_same {w w1 : World} {B g : Nat} {v : Value} {wo ga : Int} {L : List Rd} (hb : Below w.heap.size w w1) (h : RSer w1 B g v wo ga L) (j : Nat) : RPut w B g v wo ga L (w1.drewN j) :=
  ⟨_, h.turn (S := fun _ => False) (turn_drewN _ _ _) (fun _ _ hf => hf), (Turn.of_below hb).drewN j, fun _ h => .inl h⟩
theorem rput_set {w w1 : World} {B g b n d k : Nat} {wo ga t : Int} {L : List Rd} {x : Rd} (hb : Below w.heap.size w w1) (h : RSer w1 B g (.slice (some ⟨b, 0, none⟩) n d) wo ga L) (hx : L[k]? = some x) (j : Nat) :
    RPut w B g (.slice (some ⟨b, 0, none⟩) n d) wo ga (L.set k ⟨x.min, x.seq, t⟩) ((w1.drewN j).setCell ⟨b, k * 3 + 2, none⟩ (.int .i64 t)) := by
  have hne : b ≠ g := fun e => own_blk_ne h.2.2 h.2.1 (by decide) (by rw [e]; rfl)
  have h' : RSer (w1.drewN j) B g (.slice (some ⟨b, 0, none⟩) n d) wo ga L := h.turn (S := fun _ => False) (turn_drewN _ _ _) (fun _ _ hf => hf)
  have ht : Turn (fun k => k = b) (w1.drewN j) ((w1.drewN j).setCell ⟨b, k * 3 + 2, none⟩ (.int .i64 t)) := (Turn.refl (fun k => k = b) _).setCell (p := ⟨b, k * 3 + 2, none⟩) (.inl rfl) _
  refine ⟨_, ⟨h.1, h'.2.1.turn ht (fun e => hne e.symm), ?_⟩, ((Turn.of_below hb).drewN j).setCell (p := ⟨b, k * 3 + 2, none⟩) (.inl (.inr rfl)) _, fun _ h => .inl h⟩
  have e : n = L.length := by
    rcases h.2.2.2 with ⟨e, _⟩ | ⟨_, _, _, e, _⟩
    · cases e
    · cases e
      rfl
  subst e
  rw [List.length_set]
  exact row_store rcells_len h'.2.2 hx (i := 2) (by decide) rfl
theorem rput_app {w wr w2 : World} {B g gg cap : Nat} {v : Value} {wo ga : Int} {L : List Rd} {r : Rd} (hb : Below w.heap.size w wr) (h : RSer wr B g v wo ga L)
    (hown : w2.ownsRow B 37 3 (.slice (some ⟨gg, 0, none⟩) (L.length + 1) cap) (L.length + 1) (L.flatMap rcells ++ [.int .i64 r.min, .int .i64 r.seq, .int .i64 r.ten]))
    (hg : (wr.alloc (.cells #[.int .i64 r.min, .int .i64 r.seq, .int .i64 r.ten] 37)).drew.grownBy w2 v.ownBlock) (hat : v.ownBlock = some gg ∨ gg = wr.heap.size + 1)
    (fb : Lies w2 g 33 #[.int .i64 wo, .int .i64 ga, v]) :
    RPut w B g v wo ga (L ++ [r]) (w2.setCell ⟨g, 2, none⟩ (.slice (some ⟨gg, 0, none⟩) (L.length + 1) cap)) := by
  have hsz := hb.size
  have T1 : Turn (Feet g v) w w2 := (((Turn.of_below hb).alloc _).drew).grown hg (fun k hk => .inl (.inr hk))
  have hne : (gg : Nat) ≠ g := fun e => own_blk_ne hown fb (by decide) (by rw [e]; rfl)
  refine ⟨.slice (some ⟨gg, 0, none⟩) (L.length + 1) cap, ⟨h.1, ?_, ?_⟩, T1.setCell (p := ⟨g, 2, none⟩) (.inl (.inl rfl)) _, ?_⟩
  · simpa using fb.set_ 2 (.slice (some ⟨gg, 0, none⟩) (L.length + 1) cap)
  · rw [List.length_append, ← flat_snoc]
    exact own_turn hown ((Turn.refl (fun k => k = g) w2).setCell (p := ⟨g, 2, none⟩) (.inl rfl) _) (fun k hk e => by
      subst e
      exact hne (by simpa [Value.ownBlock] using hk))
  · intro b hb'
    have e : gg = b := by simpa [Value.ownBlock] using hb'
    subst e
    rcases hat with h | h
    · exact .inl h
    · right
      omega
set_option maxRecDepth 100000 in
set_option maxHeartbeats 4000000 in
theorem rput_yes (B g : Nat) (v : Value) (wo ga : Int) (L : List Rd) (r : Rd) (w : World) (h : RSer w B g v wo ga L) (hr : rightB r = true) (hL : L.length ≤ 1000000) :
    Calls Try.prog 11 #[.pointer (some ⟨g, 0, none⟩), rval r] w fun e w' => e = .returned (.tuple #[.bool (put L r).1, .int .i64 0]) ∧ RPut w B g v wo ga (put L r).2 w' := by
  have R := Lib.hid (fun W => rright_any r W)
  rw [hr] at R
  have H := Lib.hid h
  have B0 := Lib.hid (alloc_below w (.cells #[.int .i64 r.min, .int .i64 r.seq, .int .i64 r.ten] 37))
  have X0 := Lib.hid (Lies.new w 37 #[.int .i64 r.min, .int .i64 r.seq, .int .i64 r.ten])
  obtain ⟨q, d, rfl⟩ := own_slice h.2.2
  clear h hr
  obtain ⟨m, s, t⟩ := r
  unfold rval at *
  simp only at *
  go_enter Try.func11, Try.ntmps11
  go_wp2_with fail
  refine (R.out _).mono ?_
  rintro e w1 ⟨rfl, hb⟩
  have B1 := Lib.hid (B0.out.trans (hb.mono B0.out.size))
  have X1 := X0.out.below hb X0.out.lt
  have H1 := Lib.hid (H.out.below B1.out)
  have k0 : w1.cell? ⟨w.heap.size, 0, none⟩ = some (.int .i64 m) := X1.cell 0
  have k1 : w1.cell? ⟨w.heap.size, 1, none⟩ = some (.int .i64 s) := X1.cell 1
  have k2 : w1.cell? ⟨w.heap.size, 2, none⟩ = some (.int .i64 t) := X1.cell 2
  have c2 : w1.cell? ⟨g, 2, none⟩ = some (.slice q L.length d) := H1.out.2.1.cell 2
  have hL' : (L.length : Int) ≤ 1000000 := by omega
  clear hb X1 X0 B0 R H
  go_wp2_with fail
  go_loopw [7] (fun i wr => ∃ (k n : Nat), k ≤ L.length ∧ i = .int .i64 k ∧ wr = w1.drewN n ∧ Hid (∀ j y, j < k → L[j]? = some y → ¬ one y ⟨m, s, t⟩)) (fun i _ => L.length - (intOf i).toNat)
  case atStart => exact ⟨0, 0, Nat.zero_le _, rfl, rfl, Lib.hid (fun j y hj => by omega)⟩
  case round =>
    obtain ⟨k, n, hk, rfl, rfl, HN⟩ := hrel
    by_cases hlt : k < L.length
    · obtain ⟨b, c, e, hBb, hbl, hnc⟩ := own_some H1.out.2.2 (Nat.lt_of_le_of_lt (Nat.zero_le _) hlt)
      cases e
      obtain ⟨x, hx⟩ : ∃ x, L[k]? = some x := ⟨_, List.getElem?_eq_getElem hlt⟩
      have e0 : w1.cell? ⟨b, k * 3, none⟩ = some (.int .i64 x.min) := row_cell rcells_len H1.out.2.2 rfl hx (i := 0) (by decide)
      have e1 : w1.cell? ⟨b, k * 3 + 1, none⟩ = some (.int .i64 x.seq) := row_cell rcells_len H1.out.2.2 rfl hx (i := 1) (by decide)
      have e2 : w1.cell? ⟨b, k * 3 + 2, none⟩ = some (.int .i64 x.ten) := row_cell rcells_len H1.out.2.2 rfl hx (i := 2) (by decide)
      have HX := Lib.hid hx
      clear hx
      have hk3 : (k : Int) < (L.length : Int) := by omega
      by_cases t1 : x.min = m
      · have d1 : (x.min == m) = true := by simp [t1]
        by_cases t2 : x.seq = s
        · have d2 : (x.seq == s) = true := by simp [t2]
          have HO := Lib.hid (show one x ⟨m, s, t⟩ from ⟨t1, t2⟩)
          clear t1 t2
          by_cases t3 : t ≤ x.ten
          · have HE := Lib.hid (show put L ⟨m, s, t⟩ = (false, L) by rw [put_here HX.out HO.out HN.out, if_pos t3])
            go_wp2_with fail
            go_quiet (fail)
            go_wp2_with fail
            go_quiet (fail)
            go_wp2
            go_ret2
            rw [HE.out]
            simp only [World.drewN_drewN]
            exact ⟨rfl, rput_same B1.out H1.out _⟩
          · have t3' : x.ten < t := by omega
            have HE := Lib.hid (show put L ⟨m, s, t⟩ = (true, L.set k ⟨x.min, x.seq, t⟩) by rw [put_here HX.out HO.out HN.out, if_neg t3])
            clear t3
            go_wp2_with fail
            go_quiet (fail)
            go_wp2_with fail
            go_quiet (fail)
            have f2 := H1.out.2.2.frozenAt (k * 3 + 2)
            have RS := Lib.hid (fun j => rput_set B1.out H1.out HX.out (t := t) j)
            go_wp2_with fail
            go_region
            all_goals
              go_wp2
              go_ret2
              rw [HE.out]
              exact ⟨rfl, RS.out _⟩
        · have d2 : (x.seq == s) = false := by simp [t2]
          have HN2 := Lib.hid (show ∀ j y, j < k + 1 → L[j]? = some y → ¬ one y ⟨m, s, t⟩ from fun j y hj hy => by
            by_cases hjk : j < k
            · exact HN.out j y hjk hy
            · obtain rfl : j = k := by omega
              rw [HX.out] at hy
              cases hy
              exact fun h => t2 h.2)
          clear t1 t2
          go_wp2_with fail
          go_quiet (fail)
          go_wp2
          go_roundw
          case rel => exact ⟨k + 1, _, by omega, by go_num, rfl, HN2⟩
          case measure => simp [intOf]; omega
      · have d1 : (x.min == m) = false := by simp [t1]
        have HN2 := Lib.hid (show ∀ j y, j < k + 1 → L[j]? = some y → ¬ one y ⟨m, s, t⟩ from fun j y hj hy => by
          by_cases hjk : j < k
          · exact HN.out j y hjk hy
          · obtain rfl : j = k := by omega
            rw [HX.out] at hy
            cases hy
            exact fun h => t1 h.1)
        clear t1
        go_wp2_with fail
        go_quiet (fail)
        go_wp2
        go_roundw
        case rel => exact ⟨k + 1, _, by omega, by go_num, rfl, HN2⟩
        case measure => simp [intOf]; omega
    · obtain rfl : k = L.length := by omega
      have HE := Lib.hid (put_end HN.out)
      obtain ⟨wr, hwr⟩ : ∃ wr, w1.drewN n = wr := ⟨_, rfl⟩
      rw [hwr]
      have BR := Lib.hid (show Below w.heap.size w wr by rw [← hwr]; exact below_drewN B1.out n)
      have HR : RSer wr B g (.slice q L.length d) wo ga L := by rw [← hwr]; exact H1.out.turn (S := fun _ => False) (turn_drewN _ _ _) (fun _ _ hf => hf)
      have r0 : wr.cell? ⟨w.heap.size, 0, none⟩ = some (.int .i64 m) := by rw [← hwr]; exact k0
      have r1 : wr.cell? ⟨w.heap.size, 1, none⟩ = some (.int .i64 s) := by rw [← hwr]; exact k1
      have r2 : wr.cell? ⟨w.heap.size, 2, none⟩ = some (.int .i64 t) := by rw [← hwr]; exact k2
      have ho := HR.2.2
      have hbb := HR.2.1
      have hB := HR.1
      have h2 : wr.cell? ⟨g, 2, none⟩ = some (.slice q L.length d) := hbb.cell 2
      have ne : (Value.slice q L.length d).ownBlock ≠ some g := own_blk_ne ho hbb (by decide)
      have lg := hbb.lt
      clear hwr k0 k1 k2 c2 HN hlt H1 B1
      obtain ⟨i0, hi, hz0, hz1, hz2⟩ := info_parts infoR
      go_wp2_with fail
      go_region_law
        ((refine step_append_lies _ (by rfl) _ _ _ (by rfl) B 37 i0 _ 3 24 Try.underlying23 hi hz0 hz1 hz2 rfl (by omega) (.slice q L.length d) L.length (L.flatMap rcells) (by rfl) ((ho.alloc _).drew)
            ⟨wr.heap.size, 0, none⟩ 1 1 [.int .i64 m, .int .i64 s, .int .i64 t] (by rfl) (by rfl) (World.news_of_block (cs := #[.int .i64 m, .int .i64 s, .int .i64 t]) (t := 37) (fr := (0, 0)) (heap_alloc_new wr _)) (by simp [Value.oneCell'])
            (by omega) (by unfold maxLen; omega) (by omega) (by simp; omega) (wr.heap.size + 1) (by simp) ?_; intro gg cap w2 hown1 hgrow hat hlt; have fb := ((hbb.alloc (.cells #[.int .i64 m, .int .i64 s, .int .i64 t] 37)).drewN 1).grown (w' := w2) hgrow (Ne.symm ne); have f2 := fb.frozen 2; have c2 : w2.cell? ⟨g, 2, none⟩ = some (.slice q L.length d) := fb.cell 2))
      all_goals
        go_wp2
        go_ret2
        rw [HE.out]
        exact ⟨rfl, rput_app (r := ⟨m, s, t⟩) BR.out HR hown1 hgrow hat fb⟩
theorem rput_any (B g : Nat) (v : Value) (wo ga : Int) (L : List Rd) (r : Rd) (w : World) (h : RSer w B g v wo ga L) (hL : L.length ≤ 1000000) :
    Calls Try.prog 11 #[.pointer (some ⟨g, 0, none⟩), rval r] w fun e w' => e = .returned (.tuple #[.bool (putR L r).1, .int .i64 ((putR L r).2.1 : Nat)]) ∧ RPut w B g v wo ga (putR L r).2.2 w' := by
  unfold putR
  by_cases hr : rightB r = true
  · rw [if_pos hr]
    exact rput_yes B g v wo ga L r w h hr hL
  · rw [if_neg hr]
    exact rput_no B g v wo ga L r w h (by simpa using hr)
end Se
end Go.Proofs.Ytfmnbmjfkplieaa
