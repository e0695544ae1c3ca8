/- Lots in memory: rows of lots, whose stays lie elsewhere; the document's stock. No condition but those written. -/
import Derived.Test.YtclpdemhfbjliaaLoNum
import Derived.Test.YtclpdemhfbjliaaSyFace
import Derived.Test.YtclpdemhfbjliaaRw
import Derived.Lib.Hide
namespace Go.Proofs.Ytclpdemhfbjliaa
open Go.RowKit

namespace Lo
/-- A lot, and where its stays lie. -/
structure Lv where
  x : Lt
  p : Option Addr
  n : Nat
  c : Nat
def lval (y : Lv) : Value := .agg #[.int .i64 y.x.id, .int .i64 y.x.product, .int .i64 y.x.units, .int .i64 y.x.expiry, .int .i64 y.x.grant, .int .i64 y.x.order, .int .i64 y.x.status, .slice y.p y.n y.c]
def lcells (y : Lv) : List Value := [.int .i64 y.x.id, .int .i64 y.x.product, .int .i64 y.x.units, .int .i64 y.x.expiry, .int .i64 y.x.grant, .int .i64 y.x.order, .int .i64 y.x.status, .slice y.p y.n y.c]
theorem lcells_len (y : Lv) : (lcells y).length = 8 := rfl
/-- Its stays lie where it says. -/
def St (W : World) (y : Lv) : Prop := Rw 3 Sy.scells W y.p y.n y.x.stays ∧ y.n ≤ y.c
theorem St.len {W : World} {y : Lv} (h : St W y) : y.x.stays.length = y.n := h.1.1
theorem St.keep {w w' : World} {y : Lv} (h : St w y) (hb : Below w.heap.size w w') : St w' y := ⟨h.1.keep Sy.scells_len hb, h.2⟩
/-- Its stays' block. -/
def Bk (y : Lv) (k : Nat) : Prop := 0 < y.n ∧ ∃ a, y.p = some a ∧ a.block = k
theorem St.lt {W : World} {y : Lv} (h : St W y) {k : Nat} (hk : Bk y k) : k < W.heap.size := by
  obtain ⟨h0, a, ha, rfl⟩ := hk
  obtain ⟨b, o, e, hc⟩ := h.1.2 h0
  rw [e] at ha
  rw [← Option.some.inj ha]
  have hx := hc 0 _ (List.getElem?_eq_getElem (by rw [h.1.1]; exact h0)) 0 (by decide)
  exact World.block_lt_of_cell? W _ hx
theorem St.turn {w w' : World} {y : Lv} {T : Nat → Prop} (h : St w y) (ht : Turn T w w') (hs : ∀ k, Bk y k → ¬ T k) : St w' y := by
  refine ⟨?_, h.2⟩
  by_cases h0 : 0 < y.n
  · obtain ⟨b, o, e, _⟩ := h.1.2 h0
    exact h.1.turn Sy.scells_len ht (fun a ha => hs a.block ⟨h0, a, ha, rfl⟩) (by rw [e]; simp)
  · exact ⟨h.1.1, fun h1 => absurd h1 h0⟩
def lts (l : List Lv) : List Lt := l.map Lv.x
/-- What of memory it may write into. -/
def RFoot (g : Nat) (v : Value) (k : Nat) : Prop := k = g ∨ v.ownBlock = some k
/-- The blocks of lots' stays. -/
def Bks (l : List Lv) (k : Nat) : Prop := ∃ y ∈ l, Bk y k
theorem bks_set {l : List Lv} {i : Nat} {y' : Lv} {k : Nat} (h : Bks (l.set i y') k) : Bks l k ∨ Bk y' k := by
  obtain ⟨z, hz, hk⟩ := h
  rcases List.mem_or_eq_of_mem_set hz with hz | rfl
  · exact .inl ⟨z, hz, hk⟩
  · exact .inr hk
theorem bks_same {l : List Lv} {i : Nat} {y y' : Lv} (hy : l[i]? = some y) (he : ∀ k, Bk y' k → Bk y k) {k : Nat} (h : Bks (l.set i y') k) : Bks l k :=
  (bks_set h).elim id (fun hk => ⟨y, List.mem_of_getElem? hy, he k hk⟩)
theorem bks_app {l : List Lv} {y : Lv} {k : Nat} (h : Bks (l ++ [y]) k) : Bks l k ∨ Bk y k := by
  obtain ⟨z, hz, hk⟩ := h
  rcases List.mem_append.1 hz with hz | hz
  · exact .inl ⟨z, hz, hk⟩
  · rw [List.mem_singleton.1 hz] at hk
    exact .inr hk
/-- The last stay of a lot. -/
theorem st_last {W : World} {y : Lv} (h : St W y) {m : Nat} (hm : y.n = m + 1) : ∃ s b o, y.x.stays.getLast? = some s ∧ y.p = some ⟨b, o, none⟩ ∧ ∀ W', Below W.heap.size W W' → ∀ j, j < 3 → W'.cell? ⟨b, o + m * 3 + j, none⟩ = (Sy.scells s)[j]? := by
  have hl := h.len
  obtain ⟨s, hs⟩ : ∃ s, y.x.stays[m]? = some s := ⟨_, List.getElem?_eq_getElem (by rw [hl]; omega)⟩
  obtain ⟨b, o, e, hc⟩ := h.1.2 (by omega)
  refine ⟨s, b, o, by rw [List.getLast?_eq_getElem?, hl, hm, Nat.add_sub_cancel]; exact hs, e, fun W' hW j hj => ?_⟩
  have h0 := hc m s hs j hj
  refine (hW.cell (p := ⟨b, o + m * 3 + j, none⟩) ?_).trans h0
  rw [List.getElem?_eq_getElem (by rw [Sy.scells_len]; exact hj)] at h0
  exact World.block_lt_of_cell? W _ h0
end Lo
end Go.Proofs.Ytclpdemhfbjliaa
