/- Walks over the document's answer of layer 13: a zone comes. No condition but those written. Walks over the document's answer of layer 9: may stays be; may something be done now. No condition but those written. Walks over the document's answer of layer 9: may something be done now; stays, the last of which ends. No condition but those written. Walks over the document's answer of layer 9: stays, the last of which ends; into a zone; out of it. No condition but those written. Walks over the document's answer of layer 9: stays up to a minute. No condition but those written. Series in plain words: the same readings from behind, each twice. No condition but those written. A ledger in plain words: minute by minute (sums of stays, cut at a minute, added), and in any order. No condition but those written. -/
import Derived.Test.YtehiclmkdpcplaaQ09
import Derived.Test.YtehiclmkdpcplaaQ05
import Derived.Deep.RegionLaw
import Derived.Deep.AppendLies
import Derived.BigRegion
import Derived.WalkMore
import Derived.Deep.CutRange
import Derived.IntWalk
import Derived.BigQuiet
import Derived.Deep.QuietTactic
import Derived.Maps.AppendAt
import Derived.Test.YtehiclmkdpcplaaQ02
import Derived.Test.YtehiclmkdpcplaaQ03
namespace Go.Proofs.Ytehiclmkdpcplaa
open Go.RowKit

namespace Lg
open Se
theorem infoI : (Try.prog.info? 3).map (fun i => (i.zero, i.size, i.bytes)) = some (some (.int .i64 0), 1, 8) := by kernel_rfl
theorem infoP : (Try.prog.info? 63).map (fun i => (i.zero, i.size, i.bytes)) = some (some (.pointer none), 1, 8) := by kernel_rfl
theorem add_bad {l : List Zl} {z : Ms.Zn} (h : z.id < 1 ∨ mayB z.worst z.gap = false) : addZ l z = (1, l) := by unfold addZ; rw [if_pos h]
theorem add_twice {l : List Zl} {z : Ms.Zn} (h : ¬ (z.id < 1 ∨ mayB z.worst z.gap = false)) {i : Nat} (hi : atZ z.id l = some i) : addZ l z = (6, l) := by unfold addZ; rw [if_neg h, hi]
theorem add_new {l : List Zl} {z : Ms.Zn} (h : ¬ (z.id < 1 ∨ mayB z.worst z.gap = false)) (hi : atZ z.id l = none) : addZ l z = (0, l ++ [⟨z.id, z.worst, z.gap, []⟩]) := by unfold addZ; rw [if_neg h, hi]
/-- Rows of two types lie apart. -/
theorem rows_apart {W : World} {B B2 n m : Nat} {t t2 : TypeId} {v v2 : Value} {xs ys : List Value} (h : W.ownsRow B t 1 v n xs) (h2 : W.ownsRow B2 t2 1 v2 m ys) (ht : t ≠ t2) : ∀ k, v.ownBlock = some k → v2.ownBlock ≠ some k := by
  intro k hk hk2
  rcases h.2 with ⟨rfl, _⟩ | ⟨b, c, cur, rfl, _, e, _⟩
  · cases hk
  · rcases h2.2 with ⟨rfl, _⟩ | ⟨b2, c2, cur2, rfl, _, e2, _⟩
    · cases hk2
    · have h1 : b = k := by simpa [Value.ownBlock] using hk
      have h3 : b2 = k := by simpa [Value.ownBlock] using hk2
      subst h1
      subst h3
      rw [e] at e2
      injection e2 with e2
      injection e2 with _ e2
      exact ht e2
/-- One zone more. -/
theorem rlg_add {w w' : World} {B g gs : Nat} {vI vS vI' vS' : Value} {l : List Rz} {zi wo ga : Int} (h : RLg w B g vI vS l) (hT : Turn (fun k => k = g ∨ vI.ownBlock = some k ∨ vS.ownBlock = some k) w w') (hb : Lies w' g 57 #[vI', vS'])
    (rI : w'.ownsRow B 3 1 vI' (l.length + 1) (l.flatMap icells ++ [.int .i64 zi])) (rS : w'.ownsRow B 63 1 vS' (l.length + 1) (l.flatMap pcells ++ [.pointer (some ⟨gs, 0, none⟩)]))
    (hs : Lies w' gs 83 #[.int .i64 wo, .int .i64 ga, .slice none 0 0]) (hgs : w.heap.size ≤ gs) (oI : ∀ k, vI'.ownBlock = some k → vI.ownBlock = some k ∨ w.heap.size ≤ k) (oS : ∀ k, vS'.ownBlock = some k → vS.ownBlock = some k ∨ w.heap.size ≤ k) :
    Left Rg w B g (RFt g vI vS l) (zls l ++ [⟨zi, wo, ga, []⟩]) w' := by
  have hlt := h.blk.lt
  have hfeet : ∀ y ∈ l, ∀ k, Feet y.g y.v k → k < w.heap.size := fun y hy k hk => ((h.ser y hy).1.foot hk).2
  have hnew : ∀ k, Feet gs (.slice none 0 0) k ↔ k = gs := fun k => by simp [Feet, Value.ownBlock]
  have hgI : vI'.ownBlock ≠ some gs := own_blk_ne rI hs (by decide)
  have hgS : vS'.ownBlock ≠ some gs := own_blk_ne rS hs (by decide)
  refine ⟨RFt g vI' vS' (l ++ [⟨⟨zi, wo, ga, []⟩, gs, .slice none 0 0, []⟩]), ⟨vI', vS', l ++ [⟨⟨zi, wo, ga, []⟩, gs, .slice none 0 0, []⟩], ?_, by simp [zls], rfl⟩, hT.mono (fun i _ hi => hi.elim .inl (fun hi => .inr (hi.imp id .inl))), fun k hk => ?_⟩
  · refine ⟨h.base, hb, by simpa [icells] using rI, by simpa [pcells] using rS, fun y hy => ?_, fun y hy k hk => ?_, fun a b x z hx hz hab k hk => ?_, rows_apart rI rS (by decide)⟩
    · rcases List.mem_append.1 hy with hy | hy
      · obtain ⟨s1, s2⟩ := h.ser y hy
        exact ⟨s1.turn hT (fun k hk hh => by
          have ha := h.apart y hy k hk
          rcases hh with hh | hh | hh
          · exact ha.1 hh
          · exact ha.2.1 hh
          · exact ha.2.2 hh), s2⟩
      · rw [List.mem_singleton.1 hy]
        exact ⟨⟨Nat.le_trans h.base (Nat.le_trans (Nat.le_of_lt hlt) hgs), hs, World.ownsRow_nil _ _ _ _⟩, fun x => Iff.rfl, List.Pairwise.nil⟩
    · rcases List.mem_append.1 hy with hy | hy
      · have ha := h.apart y hy k hk
        have hkl := hfeet y hy k hk
        exact ⟨ha.1, fun e => (oI k e).elim ha.2.1 (fun hh => by omega), fun e => (oS k e).elim ha.2.2 (fun hh => by omega)⟩
      · rw [List.mem_singleton.1 hy] at hk
        obtain rfl := (hnew k).1 hk
        exact ⟨by omega, hgI, hgS⟩
    · have hlen : (l ++ [(⟨⟨zi, wo, ga, []⟩, gs, .slice none 0 0, []⟩ : Rz)]).length = l.length + 1 := by simp
      have ha1 := (List.getElem?_eq_some_iff.1 hx).1
      have hb1 := (List.getElem?_eq_some_iff.1 hz).1
      rw [hlen] at ha1 hb1
      by_cases hal : a < l.length
      · rw [List.getElem?_append_left hal] at hx
        by_cases hbl : b < l.length
        · rw [List.getElem?_append_left hbl] at hz
          exact h.each a b x z hx hz hab k hk
        · obtain rfl : b = l.length := by omega
          rw [List.getElem?_concat_length] at hz
          rw [← Option.some.inj hz]
          intro hh
          have := hfeet x (List.mem_of_getElem? hx) k hk
          have := (hnew k).1 hh
          omega
      · obtain rfl : a = l.length := by omega
        rw [List.getElem?_concat_length] at hx
        rw [← Option.some.inj hx] at hk
        have hk' := (hnew k).1 hk
        have hbl : b < l.length := by omega
        rw [List.getElem?_append_left hbl] at hz
        intro hh
        have := hfeet z (List.mem_of_getElem? hz) k hh
        omega
  · rcases hk with hk | hk | hk | ⟨y, hy, hk⟩
    · exact .inl (.inl hk)
    · exact (oI k hk).imp (fun h => .inr (.inl h)) id
    · exact (oS k hk).imp (fun h => .inr (.inr (.inl h))) id
    · rcases List.mem_append.1 hy with hy | hy
      · exact .inl (.inr (.inr (.inr ⟨y, hy, hk⟩)))
      · rw [List.mem_singleton.1 hy] at hk
        have := (hnew k).1 hk
        exact .inr (by omega)
/-- A zone's ID is appended. -/
structure Mid (w : World) (B g n : Nat) (vI vS : Value) (l : List Rz) (zi : Int) (vI' : Value) (w6 : World) : Prop where
  turn : Turn (fun k => k = g ∨ vI.ownBlock = some k ∨ vS.ownBlock = some k) w w6
  blk : Lies w6 g 57 #[vI', vS]
  rowI : w6.ownsRow B 3 1 vI' (n + 1) (l.flatMap icells ++ [.int .i64 zi])
  rowS : w6.ownsRow B 63 1 vS n (l.flatMap pcells)
  own : ∀ k, vI'.ownBlock = some k → vI.ownBlock = some k ∨ w.heap.size ≤ k
theorem add_mid {w w1 w5 : World} {B g gg cap n c d : Nat} {p q : Option Addr} {l : List Rz} {zi : Int} {ob : Obj} (h : RLg w B g (.slice p n c) (.slice q n d) l) (hn : l.length = n) (hb : Below w.heap.size w w1)
    (hown : w5.ownsRow B 3 1 (.slice (some ⟨gg, 0, none⟩) (n + 1) cap) (n + 1) (l.flatMap icells ++ [.int .i64 zi])) (hg : (w1.alloc ob).drew.grownBy w5 (Value.slice p n c).ownBlock) (hat : (Value.slice p n c).ownBlock = some gg ∨ gg = w1.heap.size + 1)
    (fb : Lies w5 g 57 #[.slice p n c, .slice q n d]) : Mid w B g n (.slice p n c) (.slice q n d) l zi (.slice (some ⟨gg, 0, none⟩) (n + 1) cap) (w5.setCell ⟨g, 0, none⟩ (.slice (some ⟨gg, 0, none⟩) (n + 1) cap)) := by
  have hs := hb.size
  have T1 : Turn (fun k => k = g ∨ (Value.slice p n c).ownBlock = some k ∨ (Value.slice q n d).ownBlock = some k) w w5 := (((Turn.of_below hb).alloc ob).drew).grown hg (fun k hk => .inl (.inr (.inl hk)))
  have T2 : Turn (fun k => k = g) w5 (w5.setCell ⟨g, 0, none⟩ (.slice (some ⟨gg, 0, none⟩) (n + 1) cap)) := (Turn.refl (fun k => k = g) w5).setCell (p := ⟨g, 0, none⟩) (.inl rfl) _
  have hne : (Value.slice (some ⟨gg, 0, none⟩) (n + 1) cap).ownBlock ≠ some g := own_blk_ne hown fb (by decide)
  have hS : w5.ownsRow B 63 1 (.slice q n d) n (l.flatMap pcells) := by
    have h1 := (h.keep hb).rowS
    rw [hn] at h1
    have T3 : Turn (fun k => (Value.slice p n c).ownBlock = some k) w1 w5 := (((Turn.refl _ w1).alloc ob).drew).grown hg (fun k hk => .inl hk)
    exact own_turn h1 T3 (fun k hk hh => h.rows k hh hk)
  have hSne : (Value.slice q n d).ownBlock ≠ some g := own_blk_ne hS fb (by decide)
  refine ⟨T1.trans T2 (fun i hi => .inl (.inl hi)), by simpa using fb.set_ 0 (.slice (some ⟨gg, 0, none⟩) (n + 1) cap), own_turn hown T2 (fun k hk e => hne (by rw [hk, e])), own_turn hS T2 (fun k hk e => hSne (by rw [hk, e])), fun k hk => ?_⟩
  have e : gg = k := by simpa [Value.ownBlock] using hk
  subst e
  exact hat.imp (fun h => h) (fun h => by omega)
theorem add_end {w w6 w7 : World} {B g gg cap n c d : Nat} {p q : Option Addr} {l : List Rz} {zi wo ga : Int} {vI' : Value} {ob : Obj} (h : RLg w B g (.slice p n c) (.slice q n d) l) (hn : l.length = n) (hm : Mid w B g n (.slice p n c) (.slice q n d) l zi vI' w6)
    (hown : w7.ownsRow B 63 1 (.slice (some ⟨gg, 0, none⟩) (n + 1) cap) (n + 1) (l.flatMap pcells ++ [.pointer (some ⟨w6.heap.size, 0, none⟩)])) (hg : ((w6.alloc (.cells #[.int .i64 wo, .int .i64 ga, .slice none 0 0] 83)).alloc ob).drew.grownBy w7 (Value.slice q n d).ownBlock)
    (hat : (Value.slice q n d).ownBlock = some gg ∨ gg = w6.heap.size + 2) (fb : Lies w7 g 57 #[vI', .slice q n d]) :
    Left Rg w B g (RFt g (.slice p n c) (.slice q n d) l) (zls l ++ [⟨zi, wo, ga, []⟩]) (w7.setCell ⟨g, 1, none⟩ (.slice (some ⟨gg, 0, none⟩) (n + 1) cap)) := by
  have hs := hm.turn.size
  have T1 : Turn (fun k => (Value.slice q n d).ownBlock = some k) w6 w7 := ((((Turn.refl _ w6).alloc _).alloc ob).drew).grown hg (fun k hk => .inl hk)
  have T2 : Turn (fun k => k = g) w7 (w7.setCell ⟨g, 1, none⟩ (.slice (some ⟨gg, 0, none⟩) (n + 1) cap)) := (Turn.refl (fun k => k = g) w7).setCell (p := ⟨g, 1, none⟩) (.inl rfl) _
  have hne : (Value.slice (some ⟨gg, 0, none⟩) (n + 1) cap).ownBlock ≠ some g := own_blk_ne hown fb (by decide)
  have hgl := h.blk.lt
  have rI7 : w7.ownsRow B 3 1 vI' (n + 1) (l.flatMap icells ++ [.int .i64 zi]) := own_turn hm.rowI T1 (fun k hk hh => rows_apart hm.rowI hm.rowS (by decide) k hk hh)
  have hIne : vI'.ownBlock ≠ some g := own_blk_ne rI7 fb (by decide)
  have S7 : Lies w7 w6.heap.size 83 #[.int .i64 wo, .int .i64 ga, .slice none 0 0] := by
    have h1 := ((Lies.new w6 83 #[.int .i64 wo, .int .i64 ga, .slice none 0 0]).alloc ob).drewN 1
    refine h1.grown hg (fun e => ?_)
    have := (own_lt hm.rowS e.symm).2
    omega
  subst hn
  refine rlg_add (gs := w6.heap.size) h ?_ (by simpa using fb.set_ 1 (.slice (some ⟨gg, 0, none⟩) (l.length + 1) cap)) (own_turn rI7 T2 (fun k hk e => hIne (by rw [hk, e]))) (own_turn hown T2 (fun k hk e => hne (by rw [hk, e]))) (S7.turn T2 (fun e => by omega)) hs hm.own (fun k hk => ?_)
  · exact (hm.turn.trans T1 (fun i hi => .inl (.inr (.inr hi)))).trans T2 (fun i hi => .inl (.inl hi))
  · have e : gg = k := by simpa [Value.ownBlock] using hk
    subst e
    exact hat.imp (fun h => h) (fun h => by omega)
set_option maxRecDepth 100000 in
set_option maxHeartbeats 8000000 in
theorem r13add_any (B g : Nat) (F : Nat → Prop) (st : List Zl) (z : Ms.Zn) (w : World) (h : Rg w B g F st) (hL : st.length ≤ 1000000) :
    Calls Try.prog 20 #[.pointer (some ⟨g, 0, none⟩), Ms.zval z] w fun e w' => e = .returned (.int .i64 ((addZ st z).1 : Nat)) ∧ Left Rg w B g F (addZ st z).2 w' := by
  obtain ⟨vI, vS, l, hr, rfl, rfl⟩ := h
  have hLl : l.length ≤ 1000000 := by have : (zls l).length = l.length := List.length_map ..; omega
  have CM := Lib.hid (fun W => rmay_any z.worst z.gap W)
  have HE := Lib.hid (fun W (hW : Below w.heap.size w W) => show Left Rg w B g (RFt g vI vS l) (zls l) W from left_keep ⟨vI, vS, l, hr.keep hW, rfl, rfl⟩ hW)
  have AT := Lib.hid (fun W (hW : Below w.heap.size w W) => r13at_any B g vI vS l z.id W (hr.keep hW) hLl)
  by_cases h1 : z.id < 1
  · rw [add_bad (.inl h1)]
    obtain ⟨za, zb, zc, zd, ze, zf⟩ := z
    simp only [Ms.zval] at *
    generalize mayB zb zc = mb at *
    have B1 := Lib.hid (alloc_below w (.cells #[.int .i64 za, .int .i64 zb, .int .i64 zc, .int .i64 zd, .bool ze, .int .i64 zf] 48))
    have X1 := Lib.hid (Lies.new w 48 #[.int .i64 za, .int .i64 zb, .int .i64 zc, .int .i64 zd, .bool ze, .int .i64 zf])
    obtain ⟨w1, hw1⟩ : ∃ w1, w.alloc (.cells #[.int .i64 za, .int .i64 zb, .int .i64 zc, .int .i64 zd, .bool ze, .int .i64 zf] 48) = w1 := ⟨_, rfl⟩
    rw [hw1] at B1 X1
    have x0 : w1.cell? ⟨w.heap.size, 0, none⟩ = some (.int .i64 za) := X1.out.cell 0
    have x1 : w1.cell? ⟨w.heap.size, 1, none⟩ = some (.int .i64 zb) := X1.out.cell 1
    have x2 : w1.cell? ⟨w.heap.size, 2, none⟩ = some (.int .i64 zc) := X1.out.cell 2
    clear hr hL hLl AT
    go_enter Try.func20, Try.ntmps20
    go_wp2_with fail
    refine (CM.out _).mono ?_
    rintro e w2 ⟨rfl, rfl⟩
    go_wp2
    go_ret
    exact ⟨rfl, HE.out _ B1.out⟩
  by_cases h2 : mayB z.worst z.gap = false
  · rw [add_bad (.inr h2)]
    rw [h2] at CM
    obtain ⟨za, zb, zc, zd, ze, zf⟩ := z
    simp only [Ms.zval] at *
    have B1 := Lib.hid (alloc_below w (.cells #[.int .i64 za, .int .i64 zb, .int .i64 zc, .int .i64 zd, .bool ze, .int .i64 zf] 48))
    have X1 := Lib.hid (Lies.new w 48 #[.int .i64 za, .int .i64 zb, .int .i64 zc, .int .i64 zd, .bool ze, .int .i64 zf])
    obtain ⟨w1, hw1⟩ : ∃ w1, w.alloc (.cells #[.int .i64 za, .int .i64 zb, .int .i64 zc, .int .i64 zd, .bool ze, .int .i64 zf] 48) = w1 := ⟨_, rfl⟩
    rw [hw1] at B1 X1
    have x0 : w1.cell? ⟨w.heap.size, 0, none⟩ = some (.int .i64 za) := X1.out.cell 0
    have x1 : w1.cell? ⟨w.heap.size, 1, none⟩ = some (.int .i64 zb) := X1.out.cell 1
    have x2 : w1.cell? ⟨w.heap.size, 2, none⟩ = some (.int .i64 zc) := X1.out.cell 2
    clear hr hL hLl AT h2
    go_enter Try.func20, Try.ntmps20
    go_wp2_with fail
    refine (CM.out _).mono ?_
    rintro e w2 ⟨rfl, rfl⟩
    go_wp2
    go_ret
    exact ⟨rfl, HE.out _ B1.out⟩
  have h3 : ¬ (z.id < 1 ∨ mayB z.worst z.gap = false) := fun h => h.elim h1 h2
  have h2' : mayB z.worst z.gap = true := by simpa using h2
  rw [h2'] at CM
  rcases at_cases z.id l with ⟨hz, hi⟩ | ⟨i, y, hz, hi, hy, hyz⟩
  · rw [add_new h3 hz]
    simp only [hi] at AT
    obtain ⟨za, zb, zc, zd, ze, zf⟩ := z
    simp only [Ms.zval] at *
    have B1 := Lib.hid (alloc_below w (.cells #[.int .i64 za, .int .i64 zb, .int .i64 zc, .int .i64 zd, .bool ze, .int .i64 zf] 48))
    have X1 := Lib.hid (Lies.new w 48 #[.int .i64 za, .int .i64 zb, .int .i64 zc, .int .i64 zd, .bool ze, .int .i64 zf])
    obtain ⟨w1, hw1⟩ : ∃ w1, w.alloc (.cells #[.int .i64 za, .int .i64 zb, .int .i64 zc, .int .i64 zd, .bool ze, .int .i64 zf] 48) = w1 := ⟨_, rfl⟩
    rw [hw1] at B1 X1
    have x0 : w1.cell? ⟨w.heap.size, 0, none⟩ = some (.int .i64 za) := X1.out.cell 0
    have x1 : w1.cell? ⟨w.heap.size, 1, none⟩ = some (.int .i64 zb) := X1.out.cell 1
    have x2 : w1.cell? ⟨w.heap.size, 2, none⟩ = some (.int .i64 zc) := X1.out.cell 2
    have HR := Lib.hid hr
    obtain ⟨p, c, q, d, rfl, rfl, hnc, hnd⟩ := rlg_slices hr
    obtain ⟨n, hn⟩ : ∃ n, l.length = n := ⟨_, rfl⟩
    rw [hn] at hr HR hnc hnd hLl HE ⊢
    have HN := Lib.hid hn
    have hr1 := hr.keep B1.out
    have R1 := Lib.hid hr1
    have n0 : w1.cell? ⟨g, 0, none⟩ = some (.slice p n c) := hr1.blk.cell 0
    have hoI := hr1.rowI
    rw [hn] at hoI
    have lg := hr1.blk.lt
    have neI : (Value.slice p n c).ownBlock ≠ some g := own_blk_ne hoI hr1.blk (by decide)
    have hbb := hr1.blk
    have hs1 : B ≤ w1.heap.size := Nat.le_trans hr1.base (Nat.le_of_lt lg)
    have lx := X1.out.lt
    obtain ⟨ii, hii, iz0, iz1, iz2⟩ := info_parts infoI
    have hI0 := hr.rowI
    rw [hn] at hI0
    have HZ := Lib.hid (fun (gg cap : Nat) (w5 : World) (hg : (w1.alloc (.cells #[.int .i64 za] 3)).drew.grownBy w5 (Value.slice p n c).ownBlock) => show Lies (w5.setCell ⟨g, 0, none⟩ (.slice (some ⟨gg, 0, none⟩) (n + 1) cap)) w.heap.size 48 #[.int .i64 za, .int .i64 zb, .int .i64 zc, .int .i64 zd, .bool ze, .int .i64 zf] from by
      have hgl := hr.blk.lt
      refine Lies.like ?_ (Below.heap_setCell w5 ⟨g, 0, none⟩ _ _ (show w.heap.size ≠ g by omega))
      exact ((X1.out.alloc _).drewN 1).grown hg (fun e => by have := (own_lt hI0 e.symm).2; omega))
    have HB0 : Hid (B ≤ w.heap.size) := Lib.hid (Nat.le_trans hr.base (Nat.le_of_lt hr.blk.lt))
    obtain ⟨ip, hip, pz0, pz1, pz2⟩ := info_parts infoP
    clear hr hr1 hL hz hi h2 h2' h3 HE hn hI0
    have hLl' : (n : Int) ≤ 1000000 := by omega
    go_enter Try.func20, Try.ntmps20
    go_wp2_with fail
    refine (CM.out _).mono ?_
    rintro e w2 ⟨rfl, rfl⟩
    go_wp2_with fail
    refine (AT.out _ B1.out).mono ?_
    rintro e w2 ⟨rfl, rfl⟩
    go_upto_region 6 with fail
    clear h1 hw1
    go_region_law
      ((refine step_append_lies _ (by rfl) _ _ _ (by rfl) B 3 ii _ 1 8 Try.underlying54 hii iz0 iz1 iz2 rfl (by omega) (.slice p n c) n (l.flatMap icells) (by rfl) ((hoI.alloc _).drew)
            ⟨w1.heap.size, 0, none⟩ 1 1 [.int .i64 za] (by rfl) (by rfl) (by have hh := World.news_of_block (cs := #[.int .i64 za]) (t := 3) (fr := (0, 0)) (heap_alloc_new w1 _); simpa using hh) (by simp [Value.oneCell'])
            (by omega) (by unfold maxLen; omega) (by omega) (by simp; omega) (w1.heap.size + 1) (by simp) ?_; intro gg cap w5 hown1 hgrow hat hlt; have fb := ((hbb.alloc (.cells #[.int .i64 za] 3)).drewN 1).grown (w' := w5) hgrow (Ne.symm neI); have f2 := fb.frozen 0; have c2 : w5.cell? ⟨g, 0, none⟩ = some (.slice p n c) := fb.cell 0))
    all_goals
      have MD := Lib.hid (add_mid HR.out HN.out B1.out hown1 hgrow hat fb)
      have hz := HZ.out gg cap w5 hgrow
      clear hown1 hgrow hat hlt fb f2 c2 n0 x0
      generalize w5.setCell ⟨g, 0, none⟩ (.slice (some ⟨gg, 0, none⟩) (n + 1) cap) = w6 at *
      have x1 : w6.cell? ⟨w.heap.size, 1, none⟩ = some (.int .i64 zb) := hz.cell 1
      have x2 : w6.cell? ⟨w.heap.size, 2, none⟩ = some (.int .i64 zc) := hz.cell 2
      have hbb := MD.out.blk
      have m1 : w6.cell? ⟨g, 1, none⟩ = some (.slice q n d) := hbb.cell 1
      have hoS := MD.out.rowS
      have neS : (Value.slice q n d).ownBlock ≠ some g := own_blk_ne hoS hbb (by decide)
      have lg := hbb.lt
      have lx := hz.lt
      have hs6 : B ≤ w6.heap.size := Nat.le_trans HB0.out MD.out.turn.size
      clear hz
      go_wp2_with fail
      go_region_law
        ((refine step_append_lies _ (by rfl) _ _ _ (by rfl) B 63 ip _ 1 8 Try.underlying55 hip pz0 pz1 pz2 rfl (by omega) (.slice q n d) n (l.flatMap pcells) (by rfl) (((hoS.alloc _).alloc _).drew)
              ⟨w6.heap.size + 1, 0, none⟩ 1 1 [.pointer (some ⟨w6.heap.size, 0, none⟩)] (by rfl) (by rfl) (by have hh := World.news_of_block (cs := #[.pointer (some ⟨w6.heap.size, 0, none⟩)]) (t := 63) (fr := (0, 0)) (heap_alloc_new (w6.alloc (.cells #[.int .i64 zb, .int .i64 zc, .slice none 0 0] 83)) _); simpa using hh) (by simp [Value.oneCell'])
              (by omega) (by unfold maxLen; omega) (by omega) (by simp; omega) (w6.heap.size + 2) (by simp) ?_; intro gg2 cap2 w7 hown2 hgrow2 hat2 hlt2; have fb := (((hbb.alloc (.cells #[.int .i64 zb, .int .i64 zc, .slice none 0 0] 83)).alloc (.cells #[.pointer (some ⟨w6.heap.size, 0, none⟩)] 63)).drewN 1).grown (w' := w7) hgrow2 (Ne.symm neS); have f2 := fb.frozen 1; have c2 : w7.cell? ⟨g, 1, none⟩ = some (.slice q n d) := fb.cell 1))
      all_goals
        have FF := Lib.hid (add_end HR.out HN.out MD.out hown2 hgrow2 hat2 fb)
        clear hown2 hgrow2 hat2 hlt2 fb
        go_wp2
        go_ret
        exact ⟨rfl, FF.out⟩
  · rw [add_twice h3 hz]
    simp only [hi] at AT
    obtain ⟨za, zb, zc, zd, ze, zf⟩ := z
    simp only [Ms.zval] at *
    have B1 := Lib.hid (alloc_below w (.cells #[.int .i64 za, .int .i64 zb, .int .i64 zc, .int .i64 zd, .bool ze, .int .i64 zf] 48))
    have X1 := Lib.hid (Lies.new w 48 #[.int .i64 za, .int .i64 zb, .int .i64 zc, .int .i64 zd, .bool ze, .int .i64 zf])
    obtain ⟨w1, hw1⟩ : ∃ w1, w.alloc (.cells #[.int .i64 za, .int .i64 zb, .int .i64 zc, .int .i64 zd, .bool ze, .int .i64 zf] 48) = w1 := ⟨_, rfl⟩
    rw [hw1] at B1 X1
    have x0 : w1.cell? ⟨w.heap.size, 0, none⟩ = some (.int .i64 za) := X1.out.cell 0
    have x1 : w1.cell? ⟨w.heap.size, 1, none⟩ = some (.int .i64 zb) := X1.out.cell 1
    have x2 : w1.cell? ⟨w.heap.size, 2, none⟩ = some (.int .i64 zc) := X1.out.cell 2
    clear hr hL hLl hz hi hy hyz h2 h3 h2'
    go_enter Try.func20, Try.ntmps20
    go_wp2_with fail
    refine (CM.out _).mono ?_
    rintro e w2 ⟨rfl, rfl⟩
    go_wp2_with fail
    refine (AT.out _ B1.out).mono ?_
    rintro e w2 ⟨rfl, rfl⟩
    go_wp2
    go_ret
    exact ⟨rfl, HE.out _ B1.out⟩
end Lg
end Go.Proofs.Ytehiclmkdpcplaa

namespace Go.Proofs.Ytehiclmkdpcplaa
open Go.RowKit

namespace Sy
/-- The first ones are as they may be. -/
def OkTo (S : List Sy) (k : Nat) : Prop := ∀ (i : Nat) (s : Sy), i < k → S[i]? = some s → 1 ≤ s.zone ∧ 0 ≤ s.frm ∧ (s.frm < s.to ∨ s.to = -1 ∧ i + 1 = S.length) ∧ ∀ t, 0 < i → S[i - 1]? = some t → t.to = s.frm
theorem okto_end {S : List Sy} (h : OkTo S S.length) : rightB S = true := right_yes fun i s hs => by
  obtain ⟨h1, h2, h3, h4⟩ := h i s (List.getElem?_eq_some_iff.1 hs).1 hs
  refine ⟨h1, h2, h3, fun t ht => ?_⟩
  have := (h (i + 1) t (List.getElem?_eq_some_iff.1 ht).1 ht).2.2.2 s (by omega) (by simpa using hs)
  omega
theorem okto_next {S : List Sy} {k : Nat} {x : Sy} (h : OkTo S k) (hx : S[k]? = some x) (h1 : 1 ≤ x.zone) (h2 : 0 ≤ x.frm) (h3 : x.frm < x.to ∨ x.to = -1 ∧ k + 1 = S.length) (h4 : ∀ t, 0 < k → S[k - 1]? = some t → t.to = x.frm) : OkTo S (k + 1) := fun i s hi hs => by
  by_cases hik : i < k
  · exact h i s hik hs
  · obtain rfl : i = k := by omega
    rw [hx] at hs
    rw [← Option.some.inj hs]
    exact ⟨h1, h2, h3, h4⟩
theorem bad_at {S : List Sy} {k : Nat} {x : Sy} (hx : S[k]? = some x) (h : ¬ (1 ≤ x.zone ∧ 0 ≤ x.frm ∧ (x.frm < x.to ∨ x.to = -1 ∧ k + 1 = S.length))) : rightB S = false :=
  right_no fun hr => h (by
    obtain ⟨a, b, c, _⟩ := hr k x hx
    exact ⟨a, b, c⟩)
theorem bad_join {S : List Sy} {k : Nat} {x y : Sy} (hx : S[k + 1]? = some x) (hy : S[k]? = some y) (h : y.to ≠ x.frm) : rightB S = false :=
  right_no fun hr => h ((hr k y hy).2.2.2 x hx).symm
set_option maxRecDepth 100000 in
set_option maxHeartbeats 8000000 in
theorem r9right_any (p : Option Addr) (n c : Nat) (S : List Sy) (w : World) (h : Rw 3 scells w p n S) (hn : n ≤ 1000000) :
    Calls Try.prog 35 #[.slice p n c] w fun e w' => e = .returned (.bool (rightB S)) ∧ Below w.heap.size w w' := by
  have H := Lib.hid h
  have HN := Lib.hid h.1
  have hn' : (n : Int) ≤ 1000000 := by omega
  clear h
  go_enter Try.func35, Try.ntmps35
  go_wp2
  go_loopw [3] (fun i wr => ∃ k : Nat, k ≤ n ∧ i = .int .i64 k ∧ Hid (OkTo S k) ∧ Hid (Below w.heap.size w wr)) (fun i _ => n - (RowKit.intOf i).toNat)
  case atStart => exact ⟨0, Nat.zero_le _, rfl, Lib.hid (fun i s hi => by omega), Lib.hid (Below.refl _ _)⟩
  case round =>
    obtain ⟨k, hk, rfl, HO, HB⟩ := hrel
    by_cases hlt : k < n
    · have hk3 : (k : Int) < (n : Int) := by omega
      have HR := H.out.keep scells_len HB.out
      obtain ⟨b, o, rfl, hc⟩ := HR.2 (by omega)
      obtain ⟨x, hx⟩ : ∃ x, S[k]? = some x := ⟨_, List.getElem?_eq_getElem (by rw [HN.out]; exact hlt)⟩
      have e0 : wr.cell? ⟨b, o + k * 3, none⟩ = some (.int .i64 x.zone) := hc k x hx 0 (by decide)
      have e1 : wr.cell? ⟨b, o + k * 3 + 1, none⟩ = some (.int .i64 x.frm) := hc k x hx 1 (by decide)
      have e2 : wr.cell? ⟨b, o + k * 3 + 2, none⟩ = some (.int .i64 x.to) := hc k x hx 2 (by decide)
      have HX := Lib.hid hx
      have HC := Lib.hid hc
      clear hc hx HR
      go_upto_region 5 with fail
      have B2 := Lib.hid (HB.out.alloc HB.out.size (.cells #[.int .i64 x.zone, .int .i64 x.frm, .int .i64 x.to] 52))
      have X2 := Lib.hid (Lies.new wr 52 #[.int .i64 x.zone, .int .i64 x.frm, .int .i64 x.to])
      have HA := Lib.hid (alloc_below wr (.cells #[.int .i64 x.zone, .int .i64 x.frm, .int .i64 x.to] 52))
      obtain ⟨w2, hw2⟩ : ∃ w2, wr.alloc (.cells #[.int .i64 x.zone, .int .i64 x.frm, .int .i64 x.to] 52) = w2 := ⟨_, rfl⟩
      rw [hw2] at B2 X2 HA ⊢
      clear hw2 e0 e1 e2 HB
      have x0 : w2.cell? ⟨wr.heap.size, 0, none⟩ = some (.int .i64 x.zone) := X2.out.cell 0
      have x1 : w2.cell? ⟨wr.heap.size, 1, none⟩ = some (.int .i64 x.frm) := X2.out.cell 1
      have x2 : w2.cell? ⟨wr.heap.size, 2, none⟩ = some (.int .i64 x.to) := X2.out.cell 2
      have BAD := Lib.hid (fun hh => bad_at HX.out hh)
      have NEXT := Lib.hid (fun h1 h2 h3 h4 => okto_next HO.out HX.out h1 h2 h3 h4)
      have JOIN := Lib.hid (fun (hk0 : 0 < k) y (hy : S[k - 1]? = some y) (hh : y.to ≠ x.frm) => bad_join (k := k - 1) (by rw [Nat.sub_add_cancel hk0]; exact HX.out) hy hh)
      clear HO
      obtain ⟨xz, xf, xt⟩ := x
      simp only at x0 x1 x2 BAD NEXT JOIN ⊢
      rw [HN.out] at BAD NEXT
      by_cases hz : 1 ≤ xz
      case neg =>
        have HE := Lib.hid (BAD.out (fun hh => hz hh.1))
        have hz' : xz < 1 := by omega
        clear BAD NEXT JOIN hz
        go_wp2
        go_ret
        exact ⟨by rw [HE.out]; rfl, B2.out⟩
      by_cases hf : 0 ≤ xf
      case neg =>
        have HE := Lib.hid (BAD.out (fun hh => hf hh.2.1))
        have hf' : decide (xf < 0) = true := by simp; omega
        have hz' : decide (xz < 1) = false := by simp; omega
        clear BAD NEXT JOIN hf hz
        go_wp2
        go_ret
        exact ⟨by rw [HE.out]; rfl, B2.out⟩
      by_cases ht : xf < xt ∨ xt = -1 ∧ k + 1 = n
      case neg =>
        have HE := Lib.hid (BAD.out (fun hh => ht hh.2.2))
        have hf' : decide (xf < 0) = false := by simp; omega
        have hz' : decide (xz < 1) = false := by simp; omega
        have ht1 : xt ≤ xf := by omega
        by_cases hm : xt = -1
        · have hm1 : (xt != -1) = false := by simp [hm]
          have hk4 : (k : Int) + 1 < (n : Int) := by omega
          clear BAD NEXT JOIN hf hz ht hm
          go_wp2
          go_ret
          exact ⟨by rw [HE.out]; rfl, B2.out⟩
        · have hm1 : (xt != -1) = true := by simp [hm]
          clear BAD NEXT JOIN hf hz ht hm
          go_wp2
          go_ret
          exact ⟨by rw [HE.out]; rfl, B2.out⟩
      have hf' : decide (xf < 0) = false := by simp; omega
      have hz' : decide (xz < 1) = false := by simp; omega
      have HT := Lib.hid ht
      have HZ := Lib.hid hz
      have HF := Lib.hid hf
      have key : (xt ≤ xf ∧ (xt != -1) = false ∧ ¬ (k : Int) + 1 < (n : Int)) ∨ ¬ xt ≤ xf := by
        rcases ht with ht | ⟨h1, h2⟩
        · exact .inr (by omega)
        · exact .inl ⟨by omega, by simp [h1], by omega⟩
      clear ht hz hf BAD
      by_cases hk0 : k = 0
      · have NX := Lib.hid (NEXT.out HZ.out HF.out HT.out (fun t h0 => by omega))
        subst hk0
        clear NEXT JOIN HT HZ HF
        rcases key with ⟨t1, t2, t3⟩ | t1
        all_goals
          go_wp2_with fail
          go_quiet (fail)
          go_wp2
          go_roundw
          case rel => exact ⟨1, by omega, rfl, NX, Lib.hid (below_drewN B2.out _)⟩
          case measure => simp [RowKit.intOf]; omega
      · obtain ⟨y, hy⟩ : ∃ y, S[k - 1]? = some y := ⟨_, List.getElem?_eq_getElem (by rw [HN.out]; omega)⟩
        obtain ⟨j, rfl⟩ : ∃ j, k = j + 1 := ⟨k - 1, by omega⟩
        rw [Nat.add_sub_cancel] at hy
        have y2 : w2.cell? ⟨b, o + j * 3 + 2, none⟩ = some (.int .i64 y.to) := by
          have hc := HC.out j y hy 2 (by decide)
          exact (HA.out.cell (p := ⟨b, o + j * 3 + 2, none⟩) (World.block_lt_of_cell? wr _ hc)).trans hc
        have q1 : IntKind.i64.wrap ((j : Int) + 1 - 1) = (j : Int) := by rw [show (j : Int) + 1 - 1 = j by omega]; exact IntWalk.i64_in _ (by omega)
        have q2 : IntKind.i64.wrap (j : Int) = (j : Int) := IntWalk.i64_in _ (by omega)
        have q4 : (0 : Int) < (j : Int) + 1 := by omega
        by_cases hj : y.to = xf
        · have NX := Lib.hid (NEXT.out HZ.out HF.out HT.out (fun t _ ht => by
            rw [Nat.add_sub_cancel, hy] at ht
            rw [← Option.some.inj ht]
            exact hj))
          have j1 : (y.to != xf) = false := by simp [hj]
          clear NEXT JOIN HT HZ HF hy hj hk0
          generalize y.to = yt at *
          rcases key with ⟨t1, t2, t3⟩ | t1
          all_goals
            go_wp2_with fail
            go_quiet (fail)
            clear q1 q2 q4
            go_wp2
            go_roundw
            case rel => exact ⟨j + 1 + 1, by omega, by go_num, NX, Lib.hid (below_drewN B2.out _)⟩
            case measure => simp [RowKit.intOf]; omega
        · have HE := Lib.hid (JOIN.out (by omega) y (by rw [Nat.add_sub_cancel]; exact hy) hj)
          have j1 : (y.to != xf) = true := by simp [hj]
          clear NEXT JOIN HT HZ HF hy hj hk0
          generalize y.to = yt at *
          rcases key with ⟨t1, t2, t3⟩ | t1
          all_goals
            go_wp2_with fail
            go_quiet (fail)
            clear q1 q2 q4
            go_wp2
            go_ret
            exact ⟨by rw [HE.out]; rfl, below_drewN B2.out _⟩
    · obtain rfl : k = n := by omega
      have HE := Lib.hid (okto_end (S := S) (by rw [HN.out]; exact HO.out))
      go_wp2
      go_ret
      exact ⟨by rw [HE.out]; rfl, HB.out⟩
end Sy
end Go.Proofs.Ytehiclmkdpcplaa

namespace Go.Proofs.Ytehiclmkdpcplaa
open Go.RowKit Go.Maps

namespace Sy
/-- May something be done now? -/
def mayR (S : List Sy) (now : Int) : Bool := rightB S && (decide (0 ≤ now) && (match S.getLast? with | none => true | some s => (decide (s.to = -1) && decide (s.frm ≤ now)) || decide (s.to = now)))
theorem mayR_iff {S : List Sy} {now : Int} : mayR S now = true ↔ May S now := by
  unfold mayR May
  rw [Bool.and_eq_true, Bool.and_eq_true, right_B, decide_eq_true_eq]
  refine and_congr_right fun _ => and_congr_right fun _ => ?_
  cases h : S.getLast? with
  | none => simp
  | some s => simp
theorem mayR_f {S : List Sy} {now : Int} (h : ¬ May S now) : mayR S now = false := by
  cases hb : mayR S now
  · rfl
  · exact absurd (mayR_iff.1 hb) h
end Sy
end Go.Proofs.Ytehiclmkdpcplaa

namespace Go.Proofs.Ytehiclmkdpcplaa
open Go.RowKit Go.Maps

namespace Sy
theorem infoS9 : (Try.prog.info? 52).map (fun i => (i.zero, i.size, i.bytes)) = some (some (.agg #[.int .i64 0, .int .i64 0, .int .i64 0]), 3, 24) := by kernel_rfl
def stopS (now : Int) (s : Sy) : Sy := ⟨s.zone, s.frm, if s.to = -1 then now else s.to⟩
def longS (s : Sy) : Bool := decide (s.frm < s.to)
/-- Each one that goes on ends; those that have no minute are gone. -/
def untilR (S : List Sy) (now : Int) : List Sy := (S.map (stopS now)).filter longS
theorem untilR_snoc (A : List Sy) (s : Sy) (now : Int) : untilR (A ++ [s]) now = untilR A now ++ if longS (stopS now s) = true then [stopS now s] else [] := by
  unfold untilR
  rw [List.map_append, List.filter_append]
  congr 1
  simp only [List.map_cons, List.map_nil, List.filter_cons, List.filter_nil]
theorem untilR_len (S : List Sy) (now : Int) : (untilR S now).length ≤ S.length := by
  unfold untilR
  exact Nat.le_trans (List.length_filter_le _ _) (by simp)
theorem stop_not {now : Int} {s : Sy} (h : s.to ≠ -1) : stopS now s = s := by
  unfold stopS
  rw [if_neg h]
theorem untilR_shut {A : List Sy} (h : Shut A) (now : Int) : untilR A now = A := by
  have hm : ∀ s ∈ A, s.frm < s.to ∧ 0 ≤ s.frm := by
    intro s hs
    obtain ⟨i, hi⟩ := List.mem_iff_getElem?.1 hs
    exact ⟨(h i s hi).2.2.1, (h i s hi).2.1⟩
  unfold untilR
  have h1 : A.map (stopS now) = A := by
    conv => rhs; rw [← List.map_id A]
    refine List.map_congr_left fun s hs => ?_
    have := hm s hs
    rw [stop_not (by omega)]
    rfl
  rw [h1, List.filter_eq_self]
  intro s hs
  have := hm s hs
  simp only [longS, decide_eq_true_eq]
  omega
/-- Where something may be done now. -/
theorem untilR_may {S : List Sy} {now : Int} (h : May S now) : untilR S now = untilS S now := by
  rcases ends_of S with rfl | ⟨A, s, rfl⟩
  · rfl
  · obtain ⟨h1, h2, h3, h4, h5⟩ := right_snoc.1 h.1
    rw [untilR_snoc, untilR_shut h1]
    have h0 := h.2.1
    by_cases e : s.to = -1
    · have es : stopS now s = ⟨s.zone, s.frm, now⟩ := by unfold stopS; rw [if_pos e]
      rw [es]
      by_cases hn : s.frm < now
      · rw [until_cut e hn, if_pos (by simpa [longS] using hn)]
      · rw [until_drop e hn, if_neg (by simpa [longS] using hn), List.append_nil]
    · rw [until_shut e, stop_not e, if_pos (by
        rcases h4 with h4 | h4
        · simpa [longS] using h4
        · exact absurd h4 e)]
theorem takeS {S : List Sy} {k : Nat} {x : Sy} (hx : S[k]? = some x) : S.take (k + 1) = S.take k ++ [x] := by rw [List.take_add_one, hx]; rfl
end Sy
end Go.Proofs.Ytehiclmkdpcplaa

namespace Go.Proofs.Ytehiclmkdpcplaa
open Go.RowKit Go.Maps

namespace Sy
set_option maxRecDepth 100000 in
set_option maxHeartbeats 4000000 in
theorem r9upto_no (p : Option Addr) (n c : Nat) (S : List Sy) (m : Int) (w : World) (h : Rw 3 scells w p n S) (hn : n ≤ 1000000) (hr : rightB S = false) :
    Calls Try.prog 18 #[.slice p n c, .int .i64 m] w (UptoEnd (uptoV S m) w) := by
  have R := Lib.hid (r9right_any p n c S w h hn)
  rw [hr] at R
  have E := Lib.hid (show uptoV S m = [] by unfold uptoV; rw [hr]; rfl)
  have hn' : (n : Int) ≤ 1000000 := by omega
  clear h hr
  go_enter Try.func18, Try.ntmps18
  go_wp2_with fail
  refine R.out.mono ?_
  rintro e w1 ⟨rfl, hb⟩
  have B1 := Lib.hid hb
  clear hb R
  go_wp2_with fail
  go_loopw [6, 7] (fun v i wr => v = .slice none 0 0 ∧ i = .int .i64 0 ∧ wr = w1) (fun _ _ _ => 0)
  case atStart => exact ⟨rfl, rfl, rfl⟩
  case round =>
    obtain ⟨rfl, rfl, rfl⟩ := hrel
    by_cases h0 : 0 < n
    · have h1 : (0 : Int) < (n : Int) := by omega
      go_wp2
      go_ret
      exact ⟨_, rfl, by rw [E.out]; exact World.ownsRow_nil _ _ _ _, B1.out⟩
    · obtain rfl : n = 0 := by omega
      go_wp2
      go_ret
      exact ⟨_, rfl, by rw [E.out]; exact World.ownsRow_nil _ _ _ _, B1.out⟩
set_option maxRecDepth 100000 in
set_option maxHeartbeats 16000000 in
theorem r9upto_yes (p : Option Addr) (n c : Nat) (S : List Sy) (m : Int) (w : World) (h : Rw 3 scells w p n S) (hn : n ≤ 1000000) (hr : rightB S = true) :
    Calls Try.prog 18 #[.slice p n c, .int .i64 m] w (UptoEnd (uptoV S m) w) := by
  obtain ⟨i0, hi, hz0, hz1, hz2⟩ := info_parts infoS9
  have R := Lib.hid (r9right_any p n c S w h hn)
  rw [hr] at R
  have E := Lib.hid (show uptoV S m = uptoS S m by unfold uptoV; rw [hr]; rfl)
  have H := Lib.hid h
  have HN := Lib.hid h.1
  have hn' : (n : Int) ≤ 1000000 := by omega
  clear h hr
  go_enter Try.func18, Try.ntmps18
  go_wp2_with fail
  refine R.out.mono ?_
  rintro e w1 ⟨rfl, hb⟩
  have B1 := Lib.hid hb
  clear hb R
  go_wp2_with fail
  go_loopw [6, 7] (fun v i wr => ∃ (k f : Nat), k ≤ n ∧ f ≤ k ∧ i = .int .i64 k ∧ (∃ q d, v = .slice q f d) ∧ Hid ((uptoS (S.take k) m).length = f) ∧ Hid (wr.ownsRow w.heap.size 52 3 v f ((uptoS (S.take k) m).flatMap scells)) ∧ Hid (Below w.heap.size w wr)) (fun _ i _ => n - (RowKit.intOf i).toNat)
  case atStart => exact ⟨0, 0, Nat.zero_le _, Nat.le_refl _, rfl, ⟨none, 0, rfl⟩, Lib.hid rfl, Lib.hid (World.ownsRow_nil _ _ _ _), B1⟩
  case round =>
    clear B1
    obtain ⟨k, f, hk, hf, rfl, ⟨q, d, rfl⟩, HF, RO, HB⟩ := hrel
    by_cases hlt : k < n
    · have hk3 : (k : Int) < (n : Int) := by omega
      have HR := H.out.keep scells_len HB.out
      obtain ⟨b, o, rfl, hc⟩ := HR.2 (by omega)
      obtain ⟨x, hx⟩ : ∃ x, S[k]? = some x := ⟨_, List.getElem?_eq_getElem (by rw [HN.out]; exact hlt)⟩
      have e0 : wr.cell? ⟨b, o + k * 3, none⟩ = some (.int .i64 x.zone) := hc k x hx 0 (by decide)
      have e1 : wr.cell? ⟨b, o + k * 3 + 1, none⟩ = some (.int .i64 x.frm) := hc k x hx 1 (by decide)
      have e2 : wr.cell? ⟨b, o + k * 3 + 2, none⟩ = some (.int .i64 x.to) := hc k x hx 2 (by decide)
      have TK := Lib.hid (show uptoS (S.take (k + 1)) m = uptoS (S.take k) m ++ if x.frm < m then [cut m x] else [] by rw [takeS hx, upto_snoc])
      have hsz := HB.out.size
      clear hc hx HR
      generalize uptoS (S.take k) m = U at *
      obtain ⟨xz, xf, xt⟩ := x
      simp only at e0 e1 e2
      by_cases hl : xf < m
      · have d0 : decide (m ≤ xf) = false := by simpa using hl
        by_cases e : xt = -1
        · subst e
          have TL : Hid (uptoS (S.take (k + 1)) m = U ++ [⟨xz, xf, m⟩]) := Lib.hid (by rw [TK.out, if_pos hl]; unfold cut; rw [if_pos (.inl rfl)])
          have B2 := Lib.hid (HB.out.alloc hsz (.cells #[.int .i64 xz, .int .i64 xf, .int .i64 m] 52))
          have X2 := Lib.hid (Lies.new wr 52 #[.int .i64 xz, .int .i64 xf, .int .i64 m])
          have O2 := Lib.hid (RO.out.alloc (.cells #[.int .i64 xz, .int .i64 xf, .int .i64 m] 52))
          obtain ⟨w2, hw2⟩ : ∃ w2, wr.alloc (.cells #[.int .i64 xz, .int .i64 xf, .int .i64 m] 52) = w2 := ⟨_, rfl⟩
          rw [hw2] at B2 X2 O2
          have HW2 := Lib.hid hw2
          clear hw2
          have x0 : w2.cell? ⟨wr.heap.size, 0, none⟩ = some (.int .i64 xz) := X2.out.cell 0
          have x1 : w2.cell? ⟨wr.heap.size, 1, none⟩ = some (.int .i64 xf) := X2.out.cell 1
          have x2 : w2.cell? ⟨wr.heap.size, 2, none⟩ = some (.int .i64 m) := X2.out.cell 2
          have hs2 := B2.out.size
          clear hl
          have d1 : ((-1 : Int) == -1) = true := by decide
          go_upto_region 10 with fail
          rw [HW2.out]
          go_wp2_with (at_builtin; refine wpList_append_own _ rfl _ _ 24 rfl w.heap.size 52 i0 _ 3 24 Try.underlying24 hi hz0 hz1 hz2 rfl (by decide) _ _ _ rfl (O2.out.alloc _) ⟨w2.heap.size, 0, none⟩ 1 1 [.int .i64 xz, .int .i64 xf, .int .i64 m] rfl rfl (World.news_of_block (cs := #[.int .i64 xz, .int .i64 xf, .int .i64 m]) (t := 52) (fr := (0, 0)) (heap_alloc_new w2 _)) (by simp [Value.oneCell']) (by unfold maxLen; omega) (by omega) (by simp; omega) ?_; intro v5 w5 hown5 hg5 _; have B5 := Lib.hid ((B2.out.alloc hs2 (.cells #[.int .i64 xz, .int .i64 xf, .int .i64 m] 52)).grown hg5 (Nat.le_trans hs2 (size_alloc _ _)) (fun i hi => (own_lt O2.out hi).1)))
          obtain ⟨q5, d5, rfl⟩ := own_slice hown5
          have O5 := Lib.hid hown5
          clear hown5 hg5
          go_wp2
          go_roundw
          case rel => exact ⟨k + 1, f + 1, by omega, by omega, by go_num, ⟨_, _, rfl⟩, Lib.hid (by rw [TL.out]; have := HF.out; simp [this]), Lib.hid (by
            rw [TL.out, ← flat_snoc]
            exact O5.out), B5⟩
          case measure => simp [RowKit.intOf]; omega
        · have d1 : (xt == -1) = false := by simp [e]
          by_cases hm : m < xt
          · have TL : Hid (uptoS (S.take (k + 1)) m = U ++ [⟨xz, xf, m⟩]) := Lib.hid (by rw [TK.out, if_pos hl]; unfold cut; rw [if_pos (.inr hm)])
            have B2 := Lib.hid (HB.out.alloc hsz (.cells #[.int .i64 xz, .int .i64 xf, .int .i64 m] 52))
            have X2 := Lib.hid (Lies.new wr 52 #[.int .i64 xz, .int .i64 xf, .int .i64 m])
            have O2 := Lib.hid (RO.out.alloc (.cells #[.int .i64 xz, .int .i64 xf, .int .i64 m] 52))
            obtain ⟨w2, hw2⟩ : ∃ w2, wr.alloc (.cells #[.int .i64 xz, .int .i64 xf, .int .i64 m] 52) = w2 := ⟨_, rfl⟩
            rw [hw2] at B2 X2 O2
            have HW2 := Lib.hid hw2
            clear hw2
            have x0 : w2.cell? ⟨wr.heap.size, 0, none⟩ = some (.int .i64 xz) := X2.out.cell 0
            have x1 : w2.cell? ⟨wr.heap.size, 1, none⟩ = some (.int .i64 xf) := X2.out.cell 1
            have x2 : w2.cell? ⟨wr.heap.size, 2, none⟩ = some (.int .i64 m) := X2.out.cell 2
            have hs2 := B2.out.size
            clear hl
            clear e
            go_upto_region 10 with fail
            rw [HW2.out]
            go_wp2_with (at_builtin; refine wpList_append_own _ rfl _ _ 24 rfl w.heap.size 52 i0 _ 3 24 Try.underlying24 hi hz0 hz1 hz2 rfl (by decide) _ _ _ rfl (O2.out.alloc _) ⟨w2.heap.size, 0, none⟩ 1 1 [.int .i64 xz, .int .i64 xf, .int .i64 m] rfl rfl (World.news_of_block (cs := #[.int .i64 xz, .int .i64 xf, .int .i64 m]) (t := 52) (fr := (0, 0)) (heap_alloc_new w2 _)) (by simp [Value.oneCell']) (by unfold maxLen; omega) (by omega) (by simp; omega) ?_; intro v5 w5 hown5 hg5 _; have B5 := Lib.hid ((B2.out.alloc hs2 (.cells #[.int .i64 xz, .int .i64 xf, .int .i64 m] 52)).grown hg5 (Nat.le_trans hs2 (size_alloc _ _)) (fun i hi => (own_lt O2.out hi).1)))
            obtain ⟨q5, d5, rfl⟩ := own_slice hown5
            have O5 := Lib.hid hown5
            clear hown5 hg5
            go_wp2
            go_roundw
            case rel => exact ⟨k + 1, f + 1, by omega, by omega, by go_num, ⟨_, _, rfl⟩, Lib.hid (by rw [TL.out]; have := HF.out; simp [this]), Lib.hid (by
              rw [TL.out, ← flat_snoc]
              exact O5.out), B5⟩
            case measure => simp [RowKit.intOf]; omega
          · have TL : Hid (uptoS (S.take (k + 1)) m = U ++ [⟨xz, xf, xt⟩]) := Lib.hid (by rw [TK.out, if_pos hl]; unfold cut; rw [if_neg (show ¬ (xt = -1 ∨ m < xt) by omega)])
            have B2 := Lib.hid (HB.out.alloc hsz (.cells #[.int .i64 xz, .int .i64 xf, .int .i64 xt] 52))
            have X2 := Lib.hid (Lies.new wr 52 #[.int .i64 xz, .int .i64 xf, .int .i64 xt])
            have O2 := Lib.hid (RO.out.alloc (.cells #[.int .i64 xz, .int .i64 xf, .int .i64 xt] 52))
            obtain ⟨w2, hw2⟩ : ∃ w2, wr.alloc (.cells #[.int .i64 xz, .int .i64 xf, .int .i64 xt] 52) = w2 := ⟨_, rfl⟩
            rw [hw2] at B2 X2 O2
            have HW2 := Lib.hid hw2
            clear hw2
            have x0 : w2.cell? ⟨wr.heap.size, 0, none⟩ = some (.int .i64 xz) := X2.out.cell 0
            have x1 : w2.cell? ⟨wr.heap.size, 1, none⟩ = some (.int .i64 xf) := X2.out.cell 1
            have x2 : w2.cell? ⟨wr.heap.size, 2, none⟩ = some (.int .i64 xt) := X2.out.cell 2
            have hs2 := B2.out.size
            clear hl
            have d2 : decide (m < xt) = false := by simpa using hm
            clear e hm
            go_upto_region 10 with fail
            rw [HW2.out]
            go_wp2_with (at_builtin; refine wpList_append_own _ rfl _ _ 24 rfl w.heap.size 52 i0 _ 3 24 Try.underlying24 hi hz0 hz1 hz2 rfl (by decide) _ _ _ rfl (O2.out.alloc _) ⟨w2.heap.size, 0, none⟩ 1 1 [.int .i64 xz, .int .i64 xf, .int .i64 xt] rfl rfl (World.news_of_block (cs := #[.int .i64 xz, .int .i64 xf, .int .i64 xt]) (t := 52) (fr := (0, 0)) (heap_alloc_new w2 _)) (by simp [Value.oneCell']) (by unfold maxLen; omega) (by omega) (by simp; omega) ?_; intro v5 w5 hown5 hg5 _; have B5 := Lib.hid ((B2.out.alloc hs2 (.cells #[.int .i64 xz, .int .i64 xf, .int .i64 xt] 52)).grown hg5 (Nat.le_trans hs2 (size_alloc _ _)) (fun i hi => (own_lt O2.out hi).1)))
            obtain ⟨q5, d5, rfl⟩ := own_slice hown5
            have O5 := Lib.hid hown5
            clear hown5 hg5
            go_wp2
            go_roundw
            case rel => exact ⟨k + 1, f + 1, by omega, by omega, by go_num, ⟨_, _, rfl⟩, Lib.hid (by rw [TL.out]; have := HF.out; simp [this]), Lib.hid (by
              rw [TL.out, ← flat_snoc]
              exact O5.out), B5⟩
            case measure => simp [RowKit.intOf]; omega
      · have TL : Hid (uptoS (S.take (k + 1)) m = U) := Lib.hid (by rw [TK.out, if_neg hl, List.append_nil])
        have d0 : m ≤ xf := by omega
        have B2 := Lib.hid (HB.out.alloc hsz (.cells #[.int .i64 xz, .int .i64 xf, .int .i64 xt] 52))
        have O2 := Lib.hid (RO.out.alloc (.cells #[.int .i64 xz, .int .i64 xf, .int .i64 xt] 52))
        clear hl
        go_wp2
        go_roundw
        case rel => exact ⟨k + 1, f, by omega, by omega, by go_num, ⟨_, _, rfl⟩, Lib.hid (by rw [TL.out]; exact HF.out), Lib.hid (by
          rw [TL.out]
          exact O2.out), B2⟩
        case measure => simp [RowKit.intOf]; omega
    · obtain rfl : k = n := by omega
      have TK : S.take k = S := List.take_of_length_le (by rw [HN.out]; exact Nat.le_refl _)
      have RE := Lib.hid (show wr.ownsRow w.heap.size 52 3 (.slice q f d) (uptoV S m).length ((uptoV S m).flatMap scells) by
        have h1 := RO.out
        have h2 := HF.out
        rw [TK] at h1 h2
        rw [E.out, h2]
        exact h1)
      clear RO HF TK E hlt
      go_wp2
      go_ret
      exact ⟨_, rfl, RE.out, HB.out⟩
/-- Stays, up to a minute. -/
theorem r9upto_any (p : Option Addr) (n c : Nat) (S : List Sy) (m : Int) (w : World) (h : Rw 3 scells w p n S) (hn : n ≤ 1000000) :
    Calls Try.prog 18 #[.slice p n c, .int .i64 m] w (UptoEnd (uptoV S m) w) := by
  cases hr : rightB S with
  | false => exact r9upto_no p n c S m w h hn hr
  | true => exact r9upto_yes p n c S m w h hn hr
end Sy
end Go.Proofs.Ytehiclmkdpcplaa

namespace Go.Proofs.Ytehiclmkdpcplaa.Se

def twice (l : List Rd) : List Rd := l.flatMap fun x => [x, x]
theorem twice_mem (l : List Rd) (x : Rd) : x ∈ twice l ↔ x ∈ l := by
  simp [twice]
theorem twice_next {l : List Rd} {k : Nat} {x : Rd} (hx : l[k]? = some x) : twice (l.take (k + 1)) = (twice (l.take k) ++ [x]) ++ [x] := by
  rw [List.take_add_one, hx, Option.toList_some]
  simp [twice]
theorem order_like (l : List Rd) : Like (puts (twice l.reverse)) (puts l) :=
  puts_like fun x => by rw [twice_mem, List.mem_reverse]
theorem rev_at {l : List Rd} {k : Nat} (hk : k < l.length) : l.reverse[k]? = l[l.length - 1 - k]? := by
  rw [List.getElem?_reverse hk]
/-- A reading that was put is there, with its tenths, or greater ones. -/
theorem is_there {l : List Rd} {z : Rd} (hz : z ∈ l) (hr : rightB z = true) : ∃ (j : Nat) (y : Rd), j < (sortL (puts l)).length ∧ (sortL (puts l))[j]? = some y ∧ y.min = z.min ∧ y.seq = z.seq ∧ z.ten ≤ y.ten := by
  obtain ⟨y, hy, ho, hle⟩ := (puts_spec l).2.2 z hz hr
  obtain ⟨j, hj⟩ := List.mem_iff_getElem?.1 ((mem_sort _ y).2 hy)
  exact ⟨j, y, (List.getElem?_eq_some_iff.1 hj).1, hj, ho.1, ho.2, hle⟩
/-- What is there was put. -/
theorem was_put {l : List Rd} {j : Nat} {y : Rd} (h : (sortL (puts l))[j]? = some y) : ∃ i, i < l.length ∧ l[i]? = some y := by
  have hy := (mem_sort _ y).1 (List.mem_of_getElem? h)
  obtain ⟨i, hi⟩ := List.mem_iff_getElem?.1 (((puts_spec l).2.1 y).1 hy).2.1
  exact ⟨i, (List.getElem?_eq_some_iff.1 hi).1, hi⟩
theorem in_row {l : List Rd} {j : Nat} {x y : Rd} (hx : (sortL (puts l))[j]? = some x) (hy : (sortL (puts l))[j + 1]? = some y) : x.min < y.min ∨ (x.min = y.min ∧ x.seq < y.seq) :=
  sorted_at (sorted_sort (puts_spec l).1) hx hy (by omega)
end Go.Proofs.Ytehiclmkdpcplaa.Se

namespace Go.Proofs.Ytehiclmkdpcplaa.Lg
open Se Ex

/-- What a stay adds, not yet kept below the most. -/
def valE (l : List Zl) (lim : Int) (t : Sy.Sy) : Int := match atZ t.zone l with
  | none => 0
  | some i => match l[i]? with
    | none => 0
    | some x => totV lim x t.frm t.to
def allE (l : List Zl) (lim : Int) : List Sy.Sy → Int
  | [] => 0
  | t :: U => valE l lim t + allE l lim U
theorem totV_nn (lim : Int) (x : Zl) (a b : Int) : 0 ≤ totV lim x a b := by
  unfold totV
  split
  · exact tot_nn _ _ _ _ _ _
  · exact Int.le_refl _
theorem valE_nn (l : List Zl) (lim : Int) (t : Sy.Sy) : 0 ≤ valE l lim t := by
  unfold valE
  split
  · exact Int.le_refl _
  · split
    · exact Int.le_refl _
    · exact totV_nn _ _ _ _
theorem allE_nn (l : List Zl) (lim : Int) : ∀ U, 0 ≤ allE l lim U
  | [] => Int.le_refl _
  | t :: U => by
    have h1 := valE_nn l lim t
    have h2 := allE_nn l lim U
    unfold allE
    omega
theorem stepE_val {l : List Zl} {lim o : Int} {t : Sy.Sy} (h0 : 0 ≤ o) (h1 : o ≤ 4611686018427387904) : stepE l lim o t = St.St.cap (o + valE l lim t) := by
  unfold stepE valE
  cases atZ t.zone l with
  | none =>
    simp only
    rw [Int.add_zero, St.St.cap_mid h1]
  | some i =>
    simp only
    cases l[i]? with
    | none =>
      simp only
      rw [Int.add_zero, St.St.cap_mid h1]
    | some x =>
      simp only
      rw [St.St.fit_mid h0 h1, St.St.fit_cap (totV_nn _ _ _ _), St.St.cap_add_cap _ _ h0]
/-- The sum, kept below the most. -/
theorem fold_val {l : List Zl} {lim : Int} : ∀ (U : List Sy.Sy) (o : Int), 0 ≤ o → o ≤ 4611686018427387904 → U.foldl (stepE l lim) o = St.St.cap (o + allE l lim U)
  | [], o, h0, h1 => by
    unfold allE
    rw [Int.add_zero, St.St.cap_mid h1]
    rfl
  | t :: U, o, h0, h1 => by
    have hv := valE_nn l lim t
    have hc := St.St.cap_bd (n := o + valE l lim t) (by omega)
    rw [List.foldl_cons, stepE_val h0 h1, fold_val U _ hc.1 hc.2, St.St.cap_cap_add _ _ (allE_nn l lim U), allE, Int.add_assoc]
theorem expo_val (l : List Zl) (lim : Int) (S : List Sy.Sy) (m : Int) : expo l lim S m = St.St.cap (allE l lim (Sy.uptoV S m)) := by
  rw [expo, fold_val _ 0 (Int.le_refl _) (by decide), Int.zero_add]
/-- Stays from a minute on. -/
def restL (m : Int) : List Sy.Sy → List Sy.Sy
  | [] => []
  | s :: U => if max s.frm m < s.to then { s with frm := max s.frm m } :: restL m U else restL m U
theorem rest_snoc (m : Int) (A : List Sy.Sy) (s : Sy.Sy) : restL m (A ++ [s]) = restL m A ++ if max s.frm m < s.to then [{ s with frm := max s.frm m }] else [] := by
  induction A with
  | nil => simp [restL]
  | cons x A ih =>
    simp only [List.cons_append, restL]
    split
    · rw [ih, List.cons_append]
    · exact ih
theorem rest_len (m : Int) : ∀ U, (restL m U).length ≤ U.length
  | [] => Nat.le_refl _
  | s :: U => by
    have := rest_len m U
    unfold restL
    split
    · simp only [List.length_cons]
      omega
    · simp only [List.length_cons]
      omega
/-- Stays that all ended. -/
def Done (U : List Sy.Sy) : Prop := ∀ s ∈ U, 0 ≤ s.frm ∧ s.frm < s.to
theorem shut_done {U : List Sy.Sy} (h : Sy.Shut U) : Done U := fun s hs => by
  obtain ⟨i, hi⟩ := List.mem_iff_getElem?.1 hs
  exact ⟨(h i s hi).2.1, (h i s hi).2.2.1⟩
theorem val_split {l : List Zl} {lim : Int} {s : Sy.Sy} {m : Int} (h0 : 0 ≤ s.frm) (h : s.frm < s.to) :
    valE l lim s = (if s.frm < m then valE l lim (Sy.cut m s) else 0) + (if max s.frm m < s.to then valE l lim { s with frm := max s.frm m } else 0) := by
  by_cases h1 : s.frm < m
  · by_cases h2 : m < s.to
    · have e1 : Sy.cut m s = ⟨s.zone, s.frm, m⟩ := by rw [Sy.cut, if_pos (.inr h2)]
      have e2 : max s.frm m = m := by omega
      rw [if_pos h1, e1, e2, if_pos h2]
      unfold valE
      simp only
      split
      · rfl
      · split
        · rfl
        · unfold totV
          split
          · exact tot_add _ _ _ _ (by omega) (by omega)
          · rfl
    · have e2 : ¬ max s.frm m < s.to := by omega
      rw [if_pos h1, if_neg e2, Int.add_zero, Sy.cut, if_neg (by omega)]
  · have e2 : max s.frm m = s.frm := by omega
    rw [if_neg h1, Int.zero_add, e2, if_pos h]
/-- Sums up to a minute, and from there on. -/
theorem all_split {l : List Zl} {lim m : Int} : ∀ {U : List Sy.Sy}, Done U → allE l lim U = allE l lim (Sy.uptoS U m) + allE l lim (restL m U)
  | [], _ => rfl
  | s :: U, hd => by
    have ih := all_split (l := l) (lim := lim) (m := m) (U := U) (fun z hz => hd z (List.mem_cons_of_mem _ hz))
    have hs := hd s (by simp)
    have hv := val_split (l := l) (lim := lim) (m := m) hs.1 hs.2
    have e1 : Sy.uptoS (s :: U) m = if s.frm < m then Sy.cut m s :: Sy.uptoS U m else Sy.uptoS U m := by
      unfold Sy.uptoS
      by_cases h : s.frm < m
      · rw [if_pos h, List.filter_cons_of_pos (by simpa using h), List.map_cons]
      · rw [if_neg h, List.filter_cons_of_neg (by simpa using h)]
    rw [allE, ih, hv, e1, restL]
    split
    · split
      · rw [allE, allE]
        omega
      · rw [allE]
        omega
    · split
      · rw [allE]
        omega
      · omega
/-- Stays cut at a minute, cut again at an earlier one. -/
theorem upto_upto {S : List Sy.Sy} {k m : Int} (h : k ≤ m) : Sy.uptoS (Sy.uptoS S m) k = Sy.uptoS S k := by
  have hc : ∀ s : Sy.Sy, (Sy.cut m s).frm = s.frm := fun s => by
    unfold Sy.cut
    split <;> rfl
  have hcc : ∀ s : Sy.Sy, Sy.cut k (Sy.cut m s) = Sy.cut k s := fun s => by
    unfold Sy.cut
    by_cases h1 : s.to = -1 ∨ m < s.to
    · rw [if_pos h1]
      simp only
      by_cases h2 : m = -1 ∨ k < m
      · rw [if_pos h2, if_pos (by omega)]
      · rw [if_neg h2, if_pos (by omega)]
        have : k = m := by omega
        rw [this]
    · rw [if_neg h1]
  induction S with
  | nil => rfl
  | cons s S ih =>
    have cons : ∀ (s : Sy.Sy) (U : List Sy.Sy) (j : Int), Sy.uptoS (s :: U) j = if s.frm < j then Sy.cut j s :: Sy.uptoS U j else Sy.uptoS U j := fun s U j => by
      unfold Sy.uptoS
      by_cases h : s.frm < j
      · rw [if_pos h, List.filter_cons_of_pos (by simpa using h), List.map_cons]
      · rw [if_neg h, List.filter_cons_of_neg (by simpa using h)]
    rw [cons s S m, cons s S k]
    by_cases h1 : s.frm < m
    · rw [if_pos h1, cons, hc, hcc, ih]
    · rw [if_neg h1, ih, if_neg (by omega)]
/-- What is left of stays may be. -/
theorem rest_right {m : Int} : ∀ {U : List Sy.Sy} {t : Option Sy.Sy}, Sy.rightF t U = true → (∀ s ∈ U, s.frm < s.to) → Sy.rightF none (restL m U) = true ∧ ((∀ s ∈ U, m ≤ s.frm) → restL m U = U)
  | [], _, _, _ => ⟨rfl, fun _ => rfl⟩
  | s :: U, t, h, hd => by
    rw [Sy.rightF, Bool.and_eq_true] at h
    obtain ⟨h1, h2⟩ := h
    have hs := hd s (by simp)
    have hdU : ∀ z ∈ U, z.frm < z.to := fun z hz => hd z (List.mem_cons_of_mem _ hz)
    obtain ⟨i1, i2⟩ := rest_right (m := m) h2 hdU
    obtain ⟨p1, p2, p3, _⟩ := Sy.okP_iff.1 h1
    constructor
    · rw [restL]
      split
      · rename_i hlt
        have hU : restL m U = U := by
          refine i2 (fun z hz => ?_)
          have key : ∀ (V : List Sy.Sy) (x : Sy.Sy), Sy.rightF (some x) V = true → m ≤ x.to → (∀ z ∈ V, z.frm < z.to) → ∀ z ∈ V, m ≤ z.frm := by
            intro V
            induction V with
            | nil => intro x _ _ _ z hz; simp at hz
            | cons y V ih =>
              intro x hv hx hdV z hz
              rw [Sy.rightF, Bool.and_eq_true] at hv
              have e := (Sy.okP_iff.1 hv.1).2.2.2 x rfl
              have hy := hdV y (by simp)
              rcases List.mem_cons.1 hz with rfl | hz
              · omega
              · exact ih y hv.2 (by omega) (fun w hw => hdV w (List.mem_cons_of_mem _ hw)) z hz
          exact key U s h2 (by omega) hdU z hz
        rw [hU, Sy.rightF, Bool.and_eq_true]
        refine ⟨Sy.okP_iff.2 ⟨p1, ?_, .inl hlt, fun x hx => by cases hx⟩, ?_⟩
        · simp only
          omega
        · have e : ∀ (V : List Sy.Sy) (a b : Sy.Sy), a.to = b.to → Sy.rightF (some a) V = Sy.rightF (some b) V := by
            intro V a b hab
            cases V with
            | nil => rfl
            | cons y V =>
              rw [Sy.rightF, Sy.rightF]
              simp only [Sy.okP, hab]
          exact (e U ⟨s.zone, max s.frm m, s.to⟩ s rfl).trans h2
      · exact i1
    · intro hm
      have hms := hm s (by simp)
      have e : max s.frm m = s.frm := by omega
      rw [restL, e, if_pos hs, i2 (fun z hz => hm z (List.mem_cons_of_mem _ hz))]
theorem rest_mem {m : Int} : ∀ {U : List Sy.Sy} {s : Sy.Sy}, s ∈ restL m U → ∃ t ∈ U, s = { t with frm := max t.frm m } ∧ s.frm < s.to
  | [], s, h => by simp [restL] at h
  | t :: U, s, h => by
    rw [restL] at h
    split at h
    · rename_i hlt
      rcases List.mem_cons.1 h with rfl | h
      · exact ⟨t, by simp, rfl, hlt⟩
      · obtain ⟨t', h1, h2⟩ := rest_mem h
        exact ⟨t', List.mem_cons_of_mem _ h1, h2⟩
    · obtain ⟨t', h1, h2⟩ := rest_mem h
      exact ⟨t', List.mem_cons_of_mem _ h1, h2⟩
/-- Stays that all ended by a minute are those up to it. -/
theorem upto_all {U : List Sy.Sy} {m : Int} (h : ∀ s ∈ U, 0 ≤ s.frm ∧ s.frm < s.to ∧ s.to ≤ m) : Sy.uptoS U m = U := by
  induction U with
  | nil => rfl
  | cons s U ih =>
    obtain ⟨h1, h2, h3⟩ := h s (by simp)
    have ih := ih (fun z hz => h z (List.mem_cons_of_mem _ hz))
    unfold Sy.uptoS at *
    rw [List.filter_cons_of_pos (by simp; omega), List.map_cons, ih, Sy.cut, if_neg (by omega)]
/-- What the stays up to a minute are like. -/
theorem uptoV_like (S : List Sy.Sy) (m : Int) : Sy.Shut (Sy.uptoV S m) ∧ ∀ s ∈ Sy.uptoV S m, 0 ≤ s.frm ∧ s.frm < s.to ∧ s.to ≤ m := by
  unfold Sy.uptoV
  split
  · rename_i h
    have hs := Sy.upto_shut (Sy.right_B.1 h) m
    exact ⟨hs, fun s hs' => ⟨(shut_done hs s hs').1, (shut_done hs s hs').2, (Sy.upto_to hs').1⟩⟩
  · exact ⟨Sy.shut_nil, fun s h => by simp at h⟩
theorem uptoV_again (S : List Sy.Sy) (m : Int) : Sy.uptoV (Sy.uptoV S m) m = Sy.uptoV S m := by
  obtain ⟨h1, h2⟩ := uptoV_like S m
  rw [Sy.uptoV, if_pos (Sy.right_yes (Sy.shut_right h1)), upto_all h2]
theorem uptoV_front (S : List Sy.Sy) {k m : Int} (h : k ≤ m) : Sy.uptoV S k = Sy.uptoS (Sy.uptoV S m) k := by
  unfold Sy.uptoV
  split
  · rw [upto_upto h]
  · rfl
theorem uptoV_rest (S : List Sy.Sy) (k m : Int) : Sy.uptoV (restL k (Sy.uptoV S m)) m = restL k (Sy.uptoV S m) := by
  obtain ⟨h1, h2⟩ := uptoV_like S m
  have hr := (rest_right (m := k) (U := Sy.uptoV S m) (t := none) (Sy.right_yes (Sy.shut_right h1)) (fun s hs => (h2 s hs).2.1)).1
  rw [Sy.uptoV, if_pos (show Sy.rightB (restL k (Sy.uptoV S m)) = true from hr), upto_all (fun s hs => ?_)]
  obtain ⟨t, ht, e, hlt⟩ := rest_mem hs
  have := h2 t ht
  subst e
  simp only at hlt ⊢
  omega
/-- MINUTE BY MINUTE. -/
theorem expo_min (l : List Zl) (lim : Int) (S : List Sy.Sy) {k m : Int} (h : k ≤ m) :
    expo l lim S k ≤ expo l lim S m ∧ expo l lim (restL k (Sy.uptoV S m)) m ≤ expo l lim S m ∧ (expo l lim S m < 4611686018427387904 → expo l lim S k + expo l lim (restL k (Sy.uptoV S m)) m = expo l lim S m) := by
  rw [expo_val, expo_val, expo_val, uptoV_rest, uptoV_front S h]
  have hs := all_split (l := l) (lim := lim) (m := k) (shut_done (uptoV_like S m).1)
  have h1 := allE_nn l lim (Sy.uptoS (Sy.uptoV S m) k)
  have h2 := allE_nn l lim (restL k (Sy.uptoV S m))
  unfold St.St.cap
  refine ⟨?_, ?_, ?_⟩
  · split <;> split <;> omega
  · split <;> split <;> omega
  · split <;> split <;> split <;> omega
theorem expo_bd (l : List Zl) (lim : Int) (S : List Sy.Sy) (m : Int) : 0 ≤ expo l lim S m ∧ expo l lim S m ≤ 4611686018427387904 := expo_nn _ 0 (Int.le_refl _) (by decide)
theorem expo_cut (l : List Zl) (lim : Int) (S : List Sy.Sy) (m : Int) : expo l lim (Sy.uptoV S m) m = expo l lim S m := by rw [expo_val, expo_val, uptoV_again]
/-- Readings put, one by one. -/
def putsZ (st : List Zl) (l : List (Int × Rd)) : List Zl := l.foldl (fun s p => (putZ s p.1 p.2).2) st
theorem putsZ_snoc (st : List Zl) (l : List (Int × Rd)) (p : Int × Rd) : putsZ st (l ++ [p]) = (putZ (putsZ st l) p.1 p.2).2 := by simp [putsZ]
/-- What of readings is of the zone at a place. -/
def selZ (st : List Zl) (i : Nat) (l : List (Int × Rd)) : List Rd := (l.filter fun p => decide (atZ p.1 st = some i)).map Prod.snd
theorem sel_snoc (st : List Zl) (i : Nat) (l : List (Int × Rd)) (p : Int × Rd) : selZ st i (l ++ [p]) = selZ st i l ++ if atZ p.1 st = some i then [p.2] else [] := by
  unfold selZ
  rw [List.filter_append, List.map_append]
  by_cases h : atZ p.1 st = some i
  · rw [if_pos h, List.filter_cons_of_pos (by simpa using h)]
    rfl
  · rw [if_neg h, List.filter_cons_of_neg (by simpa using h)]
    rfl
theorem sel_mem {st : List Zl} {i : Nat} {l l' : List (Int × Rd)} (h : ∀ p, p ∈ l ↔ p ∈ l') (x : Rd) : x ∈ selZ st i l ↔ x ∈ selZ st i l' := by
  unfold selZ
  simp only [List.mem_map, List.mem_filter, h]
theorem atZ_ids {id : Int} : ∀ {l l' : List Zl}, l.map Zl.id = l'.map Zl.id → atZ id l = atZ id l'
  | [], [], _ => rfl
  | [], _ :: _, h => by simp at h
  | _ :: _, [], h => by simp at h
  | x :: l, y :: l', h => by
    simp only [List.map_cons, List.cons.injEq] at h
    rw [atZ, atZ, h.1, atZ_ids h.2]
theorem putZ_ids (l : List Zl) (zone : Int) (r : Rd) : (putZ l zone r).2.map Zl.id = l.map Zl.id := by
  unfold putZ
  split
  · rfl
  · split
    · rfl
    · rename_i i _ _ x hx
      rw [List.map_set]
      simp only
      have e : (l.map Zl.id)[i]? = some x.id := by rw [List.getElem?_map, hx]; rfl
      obtain ⟨hi, e2⟩ := List.getElem?_eq_some_iff.1 e
      rw [← e2, List.set_getElem_self]
theorem putsZ_ids (st : List Zl) (l : List (Int × Rd)) : (putsZ st l).map Zl.id = st.map Zl.id := by
  induction l generalizing st with
  | nil => rfl
  | cons p l ih =>
    show (putsZ (putZ st p.1 p.2).2 l).map Zl.id = _
    rw [ih, putZ_ids]
theorem sort_put (L : List Rd) (r : Rd) (hA : Apart L) : sortL (putR (sortL L) r).2.2 = sortL (putR L r).2.2 := by
  have hs : Apart (sortL L) := sorted_apart (sorted_sort hA)
  obtain ⟨_, _, h3, h4⟩ := putR_like hs hA (like_sorted L) r
  have hp : Apart (putR (sortL L) r).2.2 := (putR_like hA hs (fun x => (like_sorted L x).symm) r).2.2.2
  exact like_sort hp h4 (fun x => ((mem_sort _ x).symm.trans (h3 x)))
/-- Readings put into zones without any: each zone's are those of it, put. -/
theorem putsZ_at {st : List Zl} (h0 : ∀ x ∈ st, x.S = []) (l : List (Int × Rd)) (i : Nat) : (putsZ st l)[i]? = (st[i]?).map fun x : Zl => ({ x with S := sortL (puts (selZ st i l)) } : Zl) := by
  have key : ∀ (n : Nat) (l : List (Int × Rd)), l.length = n → ∀ i, (putsZ st l)[i]? = (st[i]?).map fun x : Zl => ({ x with S := sortL (puts (selZ st i l)) } : Zl) := by
    intro n
    induction n with
    | zero =>
      intro l hl i
      obtain rfl := List.eq_nil_of_length_eq_zero hl
      show st[i]? = _
      cases hx : st[i]? with
      | none => rfl
      | some x =>
        have := h0 x (List.mem_of_getElem? hx)
        obtain ⟨a, b, c, S⟩ := x
        simp only at this
        subst this
        rfl
    | succ n ih =>
      intro l hl i
      obtain ⟨l', p, rfl⟩ : ∃ l' p, l = l' ++ [p] := by
        rcases List.eq_nil_or_concat l with rfl | ⟨l', p, rfl⟩
        · simp at hl
        · exact ⟨l', p, by simp⟩
      have hl' : l'.length = n := by simpa using hl
      have hi := ih l' hl'
      rw [putsZ_snoc, sel_snoc]
      have hat : atZ p.1 (putsZ st l') = atZ p.1 st := atZ_ids (putsZ_ids st l')
      unfold putZ
      rw [hat]
      cases ha : atZ p.1 st with
      | none =>
        simp only
        rw [hi, if_neg (by simp), List.append_nil]
      | some k =>
        obtain ⟨x, hx, _⟩ := at_some ha
        have hk := hi k
        rw [hx, Option.map_some] at hk
        simp only [hk]
        by_cases hik : i = k
        · subst hik
          rw [List.getElem?_set_self (List.getElem?_eq_some_iff.1 hk).1, hx, Option.map_some, if_pos rfl, puts_snoc, sort_put _ _ (puts_spec _).1]
        · rw [List.getElem?_set_ne (fun e => hik e.symm), hi, if_neg (fun e => hik (Option.some.inj e).symm), List.append_nil]
  exact key l.length l rfl i
/-- In any order, any number of times. -/
theorem putsZ_like {st : List Zl} (h0 : ∀ x ∈ st, x.S = []) {l l' : List (Int × Rd)} (h : ∀ p, p ∈ l ↔ p ∈ l') : putsZ st l = putsZ st l' := by
  apply List.ext_getElem?
  intro i
  rw [putsZ_at h0, putsZ_at h0]
  congr 1
  funext x
  rw [like_sort (puts_spec _).1 (puts_spec _).1 (puts_like (sel_mem h))]
theorem addZ_new {l : List Zl} (h0 : ∀ x ∈ l, x.S = []) (z : Ms.Zn) : ∀ x ∈ (addZ l z).2, x.S = [] := by
  unfold addZ
  split
  · exact h0
  · split
    · exact h0
    · intro x hx
      rcases List.mem_append.1 hx with hx | hx
      · exact h0 x hx
      · rw [List.mem_singleton.1 hx]
end Go.Proofs.Ytehiclmkdpcplaa.Lg
