/- Walks over a reader in package octets. -/
import Derived.Test.YtakkkdmbghdhgaaW3
import Derived.Laws.BitsAllLaws
import Derived.Laws.BitsLemmas
namespace Go.Proofs.Ytakkkdmbghdhgaa
open Go.RowKit

/-- A block whose cells are no bytes. -/
def NoU8 (cs : Array Value) : Prop := ∀ (i : Nat) (x : Int), cs[i]? ≠ some (Value.int .u8 x)
theorem noU8_2 (p : Option Addr) (n c : Nat) (e : Int) : NoU8 #[.slice p n c, .int .i64 e] := by
  intro i x h
  match i with
  | 0 => simp at h
  | 1 => simp at h
  | i + 2 => simp at h
theorem noU8_3 (p : Option Addr) (n c : Nat) (a e : Int) : NoU8 #[.slice p n c, .int .i64 a, .int .i64 e] := by
  intro i x h
  match i with
  | 0 => simp at h
  | 1 => simp at h
  | 2 => simp at h
  | i + 3 => simp at h
theorem At.ne_lies {w : World} {p : Option Addr} {n : Nat} {l : List Nat} {g : Nat} {t : TypeId} {cs : Array Value} (h : At w p n l) (hb : Lies w g t cs) (hc : NoU8 cs) (hn : 0 < n) : ∀ a, p = some a → a.block ≠ g := by
  rintro a rfl hg
  obtain ⟨b, o, e, hj⟩ := h.2.2 hn
  injection e with e
  subst e
  have h0 := hj 0 hn
  simp only at hg
  subst hg
  rw [Nat.add_zero, hb.cell o] at h0
  exact hc o _ h0
/-- Each block of a set is one whose cells are no bytes. -/
def Plain (w : World) (S : Nat → Prop) : Prop := ∀ k, S k → ∃ t cs, Lies w k t cs ∧ NoU8 cs
theorem At.plain {w w' : World} {S : Nat → Prop} {p : Option Addr} {n : Nat} {l : List Nat} (h : At w p n l) (ht : Turn S w w') (hs : Plain w S) : At w' p n l :=
  h.turn' ht (fun hn a ha hS => by
    obtain ⟨t, cs, hb, hc⟩ := hs _ hS
    exact h.ne_lies hb hc hn a ha rfl)
/-- The reader of package octets: at block g, its state: an error, or 0 and the bytes that are still to be read. -/
def PR (w : World) (g : Nat) (s : Nat × List Nat) : Prop :=
  (s.1 ≠ 0 ∧ s.2 = [] ∧ Lies w g 61 #[.slice none 0 0, .int .i64 (s.1 : Int)]) ∨ (s.1 = 0 ∧ ∃ p n c, Lies w g 61 #[.slice p n c, .int .i64 0] ∧ n ≤ c ∧ At w p n s.2)
theorem PR.plain {w : World} {g : Nat} {s : Nat × List Nat} (h : PR w g s) : Plain w (fun k => k = g) := by
  rintro k rfl
  rcases h with ⟨_, _, hb⟩ | ⟨_, p, n, c, hb, _⟩
  · exact ⟨_, _, hb, noU8_2 _ _ _ _⟩
  · exact ⟨_, _, hb, noU8_2 _ _ _ _⟩
theorem PR.lt {w : World} {g : Nat} {s : Nat × List Nat} (h : PR w g s) : g < w.heap.size := by
  rcases h with ⟨_, _, hb⟩ | ⟨_, p, n, c, hb, _⟩
  · exact hb.lt
  · exact hb.lt
theorem PR.turn {w w' : World} {g : Nat} {s : Nat × List Nat} {S : Nat → Prop} (h : PR w g s) (ht : Turn S w w') (hs : Plain w S) (hg : ¬ S g) : PR w' g s := by
  rcases h with ⟨he, hl, hb⟩ | ⟨he, p, n, c, hb, hc, hA⟩
  · exact .inl ⟨he, hl, hb.turn ht hg⟩
  · exact .inr ⟨he, p, n, c, hb.turn ht hg, hc, hA.plain ht hs⟩
/-- What a reader's call leaves. -/
def Took (w : World) (g : Nat) (s : Nat × List Nat) (w' : World) : Prop := PR w' g s ∧ Turn (fun k => k = g) w w'

theorem rworks_nil (w : World) : Calls Try.prog 37 #[.pointer none] w fun e w' => e = .returned (.bool false) ∧ w = w' := by
  go_enter Try.func37, Try.ntmps37
  go_wp2
  go_ret
  exact ⟨rfl, rfl⟩
theorem rworks_yes (g : Nat) (v : Value) (w : World) (h : Lies w g 61 #[v, .int .i64 0]) :
    Calls Try.prog 37 #[.pointer (some ⟨g, 0, none⟩)] w fun e w' => e = .returned (.bool true) ∧ w = w' := by
  have c1 : w.cell? ⟨g, 1, none⟩ = some (.int .i64 0) := h.cell 1
  clear h
  go_enter Try.func37, Try.ntmps37
  go_wp2
  go_ret
  exact ⟨rfl, rfl⟩
theorem rworks_no (g : Nat) (v : Value) (u : Nat) (hu : u ≠ 0) (w : World) (h : Lies w g 61 #[v, .int .i64 (u : Int)]) :
    Calls Try.prog 37 #[.pointer (some ⟨g, 0, none⟩)] w fun e w' => e = .returned (.bool false) ∧ w = w' := by
  have c1 : w.cell? ⟨g, 1, none⟩ = some (.int .i64 (u : Int)) := h.cell 1
  have t1 : ((u : Int) == 0) = false := by simp; omega
  clear h hu
  go_enter Try.func37, Try.ntmps37
  go_wp2
  go_ret
  exact ⟨rfl, rfl⟩
theorem took_fail {w : World} {g : Nat} {v u : Value} (h : Lies w g 61 #[v, u]) (n : Nat) (hn : n ≠ 0) : Took w g (n, []) ((w.setCell ⟨g, 0, none⟩ (.slice none 0 0)).setCell ⟨g, 1, none⟩ (.int .i64 (n : Int))) := by
  refine ⟨.inl ⟨hn, rfl, ?_⟩, ((Turn.refl (fun k => k = g) w).setCell (p := ⟨g, 0, none⟩) (.inl rfl) _).setCell (p := ⟨g, 1, none⟩) (.inl rfl) _⟩
  have := (h.set_ 0 (.slice none 0 0)).set_ 1 (.int .i64 (n : Int))
  simpa using this
theorem take_no (g k n c : Nat) (p : Option Addr) (w : World) (h : Lies w g 61 #[.slice p n c, .int .i64 0]) (hk : n < k) :
    Calls Try.prog 38 #[.pointer (some ⟨g, 0, none⟩), .int .i64 (k : Int)] w fun e w' => e = .returned (.slice none 0 0) ∧ Took w g (2, []) w' := by
  have c0 : w.cell? ⟨g, 0, none⟩ = some (.slice p n c) := h.cell 0
  have hk' : (n : Int) < (k : Int) := by omega
  have F := Lib.hid (fail_any g 61 _ _ 2 w h)
  have T := Lib.hid (took_fail h 2 (by decide))
  clear h hk
  go_enter Try.func38, Try.ntmps38
  go_wp2_with fail
  refine F.out.mono ?_
  rintro e w' ⟨rfl, rfl⟩
  go_wp2
  go_ret
  exact ⟨rfl, T.out⟩
theorem At.cut {w : World} {p : Option Addr} {n : Nat} {l : List Nat} (h : At w p n l) {k : Nat} (hk : k ≤ n) : At w (p.map fun x => x.add k) (n - k) (l.drop k) := by
  obtain ⟨hl, hx, hc⟩ := h
  refine ⟨by rw [List.length_drop, hl], Oc.mem_drop hx k, fun h0 => ?_⟩
  obtain ⟨b, o, rfl, hj⟩ := hc (by omega)
  refine ⟨b, o + k, by simp [add_none], fun j hjn => ?_⟩
  have e := hj (k + j) (by omega)
  rw [← Nat.add_assoc] at e
  rw [e, List.getD_eq_getElem?_getD, List.getD_eq_getElem?_getD, List.getElem?_drop]
theorem At.none_left {w : World} {p : Option Addr} {l : List Nat} (h : l.length = 0) : At w p 0 l := by
  obtain rfl : l = [] := List.eq_nil_of_length_eq_zero h
  exact ⟨rfl, by simp, fun h0 => absurd h0 (by decide)⟩
theorem took_cut {w : World} {g k n c : Nat} {p q : Option Addr} {l : List Nat} (h : Lies w g 61 #[.slice p n c, .int .i64 0]) (hk : k ≤ n) (hnc : n ≤ c) (hA : At w p n l) (hq : c = k ∨ q = p.map fun x => x.add k) :
    Took w g (0, l.drop k) (w.setCell ⟨g, 0, none⟩ (.slice q (n - k) (c - k))) ∧ At (w.setCell ⟨g, 0, none⟩ (.slice q (n - k) (c - k))) p k (l.take k) := by
  have ht : Turn (fun i => i = g) w (w.setCell ⟨g, 0, none⟩ (.slice q (n - k) (c - k))) := (Turn.refl (fun i => i = g) w).setCell (p := ⟨g, 0, none⟩) (.inl rfl) _
  have hP : Plain w (fun i => i = g) := by
    rintro i rfl
    exact ⟨_, _, h, noU8_2 _ _ _ _⟩
  refine ⟨⟨.inr ⟨rfl, q, n - k, c - k, by simpa using h.set_ 0 (.slice q (n - k) (c - k)), by omega, ?_⟩, ht⟩, (hA.take k hk).plain ht hP⟩
  rcases hq with rfl | rfl
  · have e : n - c = 0 := by omega
    rw [e]
    exact At.none_left (by rw [List.length_drop, hA.1]; omega)
  · exact (hA.cut hk).plain ht hP
set_option maxHeartbeats 1000000 in
theorem take_yes (g k n c : Nat) (p : Option Addr) (l : List Nat) (w : World) (h : Lies w g 61 #[.slice p n c, .int .i64 0]) (hk : k ≤ n) (hnc : n ≤ c) (hA : At w p n l) :
    Calls Try.prog 38 #[.pointer (some ⟨g, 0, none⟩), .int .i64 (k : Int)] w fun e w' => e = .returned (.slice p k c) ∧ Took w g (0, l.drop k) w' ∧ At w' p k (l.take k) := by
  have c0 : w.cell? ⟨g, 0, none⟩ = some (.slice p n c) := h.cell 0
  have f0 := h.frozen 0
  have hk' : (k : Int) ≤ (n : Int) := by omega
  have hk2 : (k : Int) ≤ (c : Int) := by omega
  have hc' : (n : Int) ≤ (c : Int) := by omega
  have H := Lib.hid h
  have HA := Lib.hid hA
  clear h hk hnc hA
  go_enter Try.func38, Try.ntmps38
  go_wp2
  · have T := took_cut (k := k) (n := n) (c := k) (q := p) (show Lies w g 61 #[.slice p n k, .int .i64 0] by have := H.out; simp_all) (by omega) (by omega) HA.out (.inl rfl)
    rw [Nat.sub_self] at T
    go_ret
    exact ⟨by simp_all, T⟩
  · go_ret
    exact ⟨rfl, took_cut H.out (Int.ofNat_le.1 hk') (Int.ofNat_le.1 hc') HA.out (.inr rfl)⟩
end Go.Proofs.Ytakkkdmbghdhgaa
