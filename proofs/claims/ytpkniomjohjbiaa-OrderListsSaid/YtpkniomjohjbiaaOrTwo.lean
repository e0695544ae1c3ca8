/- A book, and the document's list, side by side. Conditions: the contracts of package order. -/
import Derived.Test.YtpkniomjohjbiaaOrFace
import Derived.Test.YtpkniomjohjbiaaOr3
namespace Go.Proofs.Ytpkniomjohjbiaa
open Go.RowKit

namespace Or
theorem bq_lt {w : World} {q : Option Addr} {m : Nat} {l : List Od} (h : Rw 4 ocells w q m l) {k : Nat} (hk : Bq q m k) : k < w.heap.size := by
  obtain ⟨h0, a, ha, rfl⟩ := hk
  obtain ⟨b, o, e, hc⟩ := h.2 h0
  rw [e] at ha
  rw [← Option.some.inj ha]
  have hx := hc 0 _ (List.getElem?_eq_getElem (by rw [h.1]; exact h0)) 0 (by decide)
  exact World.block_lt_of_cell? w _ hx
theorem rw_turn {w w' : World} {q : Option Addr} {m : Nat} {l : List Od} {T : Nat → Prop} (h : Rw 4 ocells w q m l) (ht : Turn T w w') (hs : ∀ k, Bq q m k → ¬ T k) : Rw 4 ocells w' q m l := by
  by_cases h0 : 0 < m
  · obtain ⟨b, o, e, _⟩ := h.2 h0
    exact h.turn ocells_len ht (fun a ha => hs a.block ⟨h0, a, ha, rfl⟩) (by rw [e]; simp)
  · exact ⟨h.1, fun h1 => absurd h1 h0⟩
/-- A book that holds l, and a list that reads as l2, apart from each other; nothing older than the book has turned. -/
def Two (I : Face) (w0 w : World) (h : Nat) (l : List Od) (q : Option Addr) (m d : Nat) (l2 : List Od) : Prop :=
  Good l ∧ Below w0.heap.size w0 w ∧ Rw 4 ocells w q m l2 ∧ m ≤ d ∧ m ≤ 64 ∧ ∃ F, I.DB w w0.heap.size h F l ∧ ∀ k, Bq q m k → ¬ F k
theorem Two.base {I : Face} {w0 w : World} {h : Nat} {l : List Od} {q : Option Addr} {m d : Nat} {l2 : List Od} (t : Two I w0 w h l q m d l2) : Below w0.heap.size w0 w := t.2.1
theorem Two.good {I : Face} {w0 w : World} {h : Nat} {l : List Od} {q : Option Addr} {m d : Nat} {l2 : List Od} (t : Two I w0 w h l q m d l2) : Good l := t.1
theorem Two.row {I : Face} {w0 w : World} {h : Nat} {l : List Od} {q : Option Addr} {m d : Nat} {l2 : List Od} (t : Two I w0 w h l q m d l2) : Rw 4 ocells w q m l2 := t.2.2.1
theorem Two.le {I : Face} {w0 w : World} {h : Nat} {l : List Od} {q : Option Addr} {m d : Nat} {l2 : List Od} (t : Two I w0 w h l q m d l2) : m ≤ 64 := t.2.2.2.2.1
theorem Two.bk {I : Face} {w0 w : World} {h : Nat} {l : List Od} {q : Option Addr} {m d : Nat} {l2 : List Od} (t : Two I w0 w h l q m d l2) : Bk I w0 w h l := ⟨t.1, t.2.1, t.2.2.2.2.2.choose, t.2.2.2.2.2.choose_spec.1⟩
theorem Two.below {I : Face} {w0 w w' : World} {h : Nat} {l : List Od} {q : Option Addr} {m d : Nat} {l2 : List Od} (t : Two I w0 w h l q m d l2) (hb : Below w.heap.size w w') : Two I w0 w' h l q m d l2 := by
  obtain ⟨hg, h0, hr, hd, h6, F, hD, hF⟩ := t
  exact ⟨hg, h0.trans (hb.mono h0.size), hr.keep ocells_len hb, hd, h6, F, I.keep hD hb, hF⟩
theorem Two.book {I : Face} {w0 w w' : World} {h : Nat} {l l' : List Od} {q : Option Addr} {m d : Nat} {l2 : List Od} {F : Nat → Prop} (h0 : Below w0.heap.size w0 w) (hr : Rw 4 ocells w q m l2) (hd : m ≤ d) (h6 : m ≤ 64) (hD : I.DB w w0.heap.size h F l) (hF : ∀ k, Bq q m k → ¬ F k) (hg : Good l')
    (hl : Left I.DB w w0.heap.size h F l' w') : Two I w0 w' h l' q m d l2 := by
  obtain ⟨F', h3, h4, h5⟩ := hl
  refine ⟨hg, h4.below h0 h0.size (fun i hi => (I.foot hD hi).1), rw_turn hr h4 hF, hd, h6, F', h3, fun k hk hk' => ?_⟩
  rcases h5 k hk' with e | e
  · exact hF k hk e
  · have := bq_lt hr hk
    omega
theorem Two.doc {I : Face} {w0 w w' : World} {h : Nat} {l : List Od} {q : Option Addr} {m d : Nat} {l2 l3 : List Od} (t : Two I w0 w h l q m d l2) {q' : Option Addr} {m' d' : Nat} (ht : Told w q m l3 q' m' d' w') (h6 : l3.length ≤ 64) : Two I w0 w' h l q' m' d' l3 := by
  obtain ⟨hg, h0, hr, hd, _, F, hD, hF⟩ := t
  obtain ⟨h1, h2, h3, h4⟩ := ht
  refine ⟨hg, h0.trans (h4.mono h0.size), h1, h2, by rw [← h1.1]; exact h6, F, I.keep hD h4, fun k hk hk' => ?_⟩
  rcases h3 k hk with e | e
  · exact hF k e hk'
  · have := (I.foot hD hk').2
    omega
theorem two_new {I : Face} {w0 w : World} {h : Nat} {F : Nat → Prop} (hd : I.DB w w0.heap.size h F []) (hb : Below w0.heap.size w0 w) : Two I w0 w h [] none 0 0 [] :=
  ⟨good_nil, hb, rw_nil w, Nat.le_refl _, Nat.zero_le _, F, hd, fun _ hk => absurd hk.1 (Nat.lt_irrefl 0)⟩
variable {I : Face} {w0 w : World} {h : Nat} {l : List Od} {q : Option Addr} {m d : Nat} {l2 : List Od}
theorem two_want1 (t : Two I w0 w h l q m d l2) (product units : Int) (h1 : I64 product) (h2 : I64 units) :
    Calls Try.prog 12 #[.pointer (some ⟨h, 0, none⟩), .int .i64 product, .int .i64 units] w fun e w' => e = .returned (.tuple #[.int .i64 (wantF l product units).2.1, .int .i64 (wantF l product units).2.2]) ∧ Two I w0 w' h (wantF l product units).1 q m d l2 := by
  obtain ⟨hg, h0, hr, hd, h6, F, hD, hF⟩ := t
  exact (I.want _ h F l product units w hD hg h1 h2).mono fun e w' ⟨he, hl⟩ => ⟨he, Two.book h0 hr hd h6 hD hF (hg.wanted _ _) hl⟩
theorem two_alloc1 (t : Two I w0 w h l q m d l2) (id : Int) (h1 : I64 id) :
    Calls Try.prog 8 #[.pointer (some ⟨h, 0, none⟩), .int .i64 id] w fun e w' => e = .returned (.int .i64 (changeF l id 0 1).2) ∧ Two I w0 w' h (changeF l id 0 1).1 q m d l2 := by
  obtain ⟨hg, h0, hr, hd, h6, F, hD, hF⟩ := t
  exact (I.alloc _ h F l id w hD hg h1).mono fun e w' ⟨he, hl⟩ => ⟨he, Two.book h0 hr hd h6 hD hF (hg.change _ _ _ (by decide) (by decide)) hl⟩
theorem two_free1 (t : Two I w0 w h l q m d l2) (id : Int) (h1 : I64 id) :
    Calls Try.prog 10 #[.pointer (some ⟨h, 0, none⟩), .int .i64 id] w fun e w' => e = .returned (.int .i64 (changeF l id 1 0).2) ∧ Two I w0 w' h (changeF l id 1 0).1 q m d l2 := by
  obtain ⟨hg, h0, hr, hd, h6, F, hD, hF⟩ := t
  exact (I.free _ h F l id w hD hg h1).mono fun e w' ⟨he, hl⟩ => ⟨he, Two.book h0 hr hd h6 hD hF (hg.change _ _ _ (by decide) (by decide)) hl⟩
theorem two_ship1 (t : Two I w0 w h l q m d l2) (id : Int) (h1 : I64 id) :
    Calls Try.prog 11 #[.pointer (some ⟨h, 0, none⟩), .int .i64 id] w fun e w' => e = .returned (.int .i64 (changeF l id 1 2).2) ∧ Two I w0 w' h (changeF l id 1 2).1 q m d l2 := by
  obtain ⟨hg, h0, hr, hd, h6, F, hD, hF⟩ := t
  exact (I.ship _ h F l id w hD hg h1).mono fun e w' ⟨he, hl⟩ => ⟨he, Two.book h0 hr hd h6 hD hF (hg.change _ _ _ (by decide) (by decide)) hl⟩
theorem two_want2 (t : Two I w0 w h l q m d l2) (hg2 : Good l2) (product units : Int) :
    Calls Try.prog 13 #[.slice q m d, .int .i64 product, .int .i64 units] w fun e w' => ∃ q' m' d', e = .returned (.tuple #[.slice q' m' d', .int .i64 (wantF l2 product units).2.1, .int .i64 (wantF l2 product units).2.2]) ∧ Two I w0 w' h l q' m' d' (wantF l2 product units).1 :=
  (r16want_any q m d l2 product units w t.row t.2.2.2.1).mono fun _ _ ⟨q', m', d', he, ht⟩ => ⟨q', m', d', he, t.doc ht (hg2.wanted _ _).len⟩
theorem two_change2 (t : Two I w0 w h l q m d l2) (hg2 : Good l2) (id frm to : Int) (h0 : 0 ≤ to) (h2 : to ≤ 2) :
    Calls Try.prog 9 #[.slice q m d, .int .i64 id, .int .i64 frm, .int .i64 to] w fun e w' => ∃ q' m' d', e = .returned (.tuple #[.slice q' m' d', .int .i64 (changeF l2 id frm to).2]) ∧ Two I w0 w' h l q' m' d' (changeF l2 id frm to).1 :=
  (r16change_any q m d l2 id frm to w t.row t.2.2.2.1 (by have := t.le; omega)).mono fun _ _ ⟨q', m', d', he, ht⟩ => ⟨q', m', d', he, t.doc ht (hg2.change _ _ _ h0 h2).len⟩
/-- The book's list, and whether it is the document's. -/
theorem two_orders (t : Two I w0 w h l q m d l2) :
    Calls Try.prog 15 #[.pointer (some ⟨h, 0, none⟩)] w fun e w' => ∃ p n c, e = .returned (.slice p n c) ∧ Rw 4 ocells w' p n l ∧ n ≤ 64 ∧ Two I w0 w' h l q m d l2 := by
  refine (bk_orders t.bk).mono ?_
  rintro e w' ⟨v, rfl, ho, hb⟩
  obtain ⟨p, c, rfl⟩ := own_slice ho
  exact ⟨p, l.length, c, rfl, own_od ho rfl, t.good.len, t.below hb⟩
/-- The book's list, which is apart from it. -/
theorem two_orders2 (t : Two I w0 w h l q m d l2) :
    Calls Try.prog 15 #[.pointer (some ⟨h, 0, none⟩)] w fun e w' => ∃ p n c, e = .returned (.slice p n c) ∧ Two I w0 w' h l q m d l2 ∧ Two I w0 w' h l p n c l := by
  obtain ⟨hg, h0, hr, hd, h6, F, hD, hF⟩ := t
  refine (I.orders _ h F l w hD hg).mono ?_
  rintro e w' ⟨v, rfl, ho, hb⟩
  obtain ⟨p, c, rfl⟩ := own_slice ho
  have h1 := h0.trans (hb.mono h0.size)
  refine ⟨p, l.length, c, rfl, ⟨hg, h1, hr.keep ocells_len hb, hd, h6, F, I.keep hD hb, hF⟩, hg, h1, own_od ho rfl, own_cap ho, hg.len, F, I.keep hD hb, fun k hk hk' => ?_⟩
  have h2 := own_bq ho k hk
  have h3 := (I.foot hD hk').2
  omega
theorem two_same (t : Two I w0 w h l q m d l) {p : Option Addr} {n c : Nat} (hr : Rw 4 ocells w p n l) (hn : n ≤ 64) :
    Calls Try.prog 14 #[.slice p n c, .slice q m d] w fun e w' => e = .returned (.bool true) ∧ Two I w0 w' h l q m d l := by
  refine (r16same_any p q n m c d l l w (by omega) hr t.row).mono ?_
  rintro e w' ⟨he, k, rfl⟩
  exact ⟨by rw [he]; simp, t.below ⟨rfl, rfl, rfl, Nat.le_refl _, fun _ _ => rfl⟩⟩
theorem two_order2 (t : Two I w0 w h l q m d l2) (id : Int) :
    Calls Try.prog 17 #[.slice q m d, .int .i64 id] w fun e w' => e = .returned (.tuple #[oval (orderF l2 id).1, .int .i64 (orderF l2 id).2]) ∧ Below w.heap.size w w' :=
  r16order_any q m d l2 id w t.row (by have := t.le; omega)
end Or
end Go.Proofs.Ytpkniomjohjbiaa
