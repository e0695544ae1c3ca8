/- What layer 16's laws, and later layers, lean on of package order: a bundle of contracts, whatever the package is like inside. No condition but those written. -/
import Derived.Test.YtpkniomjohjbiaaOrMem
namespace Go.Proofs.Ytpkniomjohjbiaa
open Go.RowKit

namespace Or
def I64 (x : Int) : Prop := -9223372036854775808 ≤ x ∧ x ≤ 9223372036854775807
/-- What an act leaves of a book. -/
def Left (DB : World → Nat → Nat → (Nat → Prop) → List Od → Prop) (w : World) (B h : Nat) (F : Nat → Prop) (l : List Od) (w' : World) : Prop := ∃ F', DB w' B h F' l ∧ Turn F w w' ∧ ∀ k, F' k → F k ∨ w.heap.size ≤ k
/-- Contracts of package order: a book at block h, its memory F. -/
structure Face where
  DB : World → Nat → Nat → (Nat → Prop) → List Od → Prop
  foot : ∀ {w : World} {B h : Nat} {F : Nat → Prop} {l : List Od} {k : Nat}, DB w B h F l → F k → B ≤ k ∧ k < w.heap.size
  turn : ∀ {w w' : World} {B h : Nat} {F T : Nat → Prop} {l : List Od}, DB w B h F l → Turn T w w' → (∀ k, F k → ¬ T k) → DB w' B h F l
  new : ∀ (w : World), Calls Try.prog 7 #[] w fun e w' => ∃ h F, e = .returned (.pointer (some ⟨h, 0, none⟩)) ∧ DB w' w.heap.size h F [] ∧ Below w.heap.size w w'
  want : ∀ (B h : Nat) (F : Nat → Prop) (l : List Od) (product units : Int) (w : World), DB w B h F l → Good l → I64 product → I64 units →
    Calls Try.prog 12 #[.pointer (some ⟨h, 0, none⟩), .int .i64 product, .int .i64 units] w fun e w' => e = .returned (.tuple #[.int .i64 (wantF l product units).2.1, .int .i64 (wantF l product units).2.2]) ∧ Left DB w B h F (wantF l product units).1 w'
  alloc : ∀ (B h : Nat) (F : Nat → Prop) (l : List Od) (id : Int) (w : World), DB w B h F l → Good l → I64 id →
    Calls Try.prog 8 #[.pointer (some ⟨h, 0, none⟩), .int .i64 id] w fun e w' => e = .returned (.int .i64 (changeF l id 0 1).2) ∧ Left DB w B h F (changeF l id 0 1).1 w'
  free : ∀ (B h : Nat) (F : Nat → Prop) (l : List Od) (id : Int) (w : World), DB w B h F l → Good l → I64 id →
    Calls Try.prog 10 #[.pointer (some ⟨h, 0, none⟩), .int .i64 id] w fun e w' => e = .returned (.int .i64 (changeF l id 1 0).2) ∧ Left DB w B h F (changeF l id 1 0).1 w'
  ship : ∀ (B h : Nat) (F : Nat → Prop) (l : List Od) (id : Int) (w : World), DB w B h F l → Good l → I64 id →
    Calls Try.prog 11 #[.pointer (some ⟨h, 0, none⟩), .int .i64 id] w fun e w' => e = .returned (.int .i64 (changeF l id 1 2).2) ∧ Left DB w B h F (changeF l id 1 2).1 w'
  order : ∀ (B h : Nat) (F : Nat → Prop) (l : List Od) (id : Int) (w : World), DB w B h F l → Good l → I64 id →
    Calls Try.prog 16 #[.pointer (some ⟨h, 0, none⟩), .int .i64 id] w fun e w' => e = .returned (.tuple #[oval (orderF l id).1, .int .i64 (orderF l id).2]) ∧ Below w.heap.size w w'
  orders : ∀ (B h : Nat) (F : Nat → Prop) (l : List Od) (w : World), DB w B h F l → Good l →
    Calls Try.prog 15 #[.pointer (some ⟨h, 0, none⟩)] w fun e w' => ∃ v, e = .returned v ∧ w'.ownsRow w.heap.size 40 4 v l.length (l.flatMap ocells) ∧ Below w.heap.size w w'
  right : ∀ (p : Option Addr) (n c : Nat) (l : List Od) (w : World), Rw 4 ocells w p n l → n ≤ c → n ≤ 1000000 →
    Calls Try.prog 20 #[.slice p n c] w fun e w' => e = .returned (.bool (rightB l)) ∧ Below w.heap.size w w'
  of_yes : ∀ (p : Option Addr) (n c : Nat) (l : List Od) (w : World), Rw 4 ocells w p n l → n ≤ c → n ≤ 1000000 → rightB l = true →
    Calls Try.prog 19 #[.slice p n c] w fun e w' => ∃ h F, e = .returned (.tuple #[.pointer (some ⟨h, 0, none⟩), .int .i64 0]) ∧ DB w' w.heap.size h F l ∧ Below w.heap.size w w'
  of_no : ∀ (p : Option Addr) (n c : Nat) (l : List Od) (w : World), Rw 4 ocells w p n l → n ≤ c → n ≤ 1000000 → rightB l = false →
    Calls Try.prog 19 #[.slice p n c] w fun e w' => e = .returned (.tuple #[.pointer none, .int .i64 1]) ∧ Below w.heap.size w w'
  nil_want : ∀ (product units : Int) (w : World), Calls Try.prog 12 #[.pointer none, .int .i64 product, .int .i64 units] w fun e w' => e = .returned (.tuple #[.int .i64 0, .int .i64 1]) ∧ Below w.heap.size w w'
  nil_alloc : ∀ (id : Int) (w : World), Calls Try.prog 8 #[.pointer none, .int .i64 id] w fun e w' => e = .returned (.int .i64 1) ∧ Below w.heap.size w w'
  nil_free : ∀ (id : Int) (w : World), Calls Try.prog 10 #[.pointer none, .int .i64 id] w fun e w' => e = .returned (.int .i64 1) ∧ Below w.heap.size w w'
  nil_ship : ∀ (id : Int) (w : World), Calls Try.prog 11 #[.pointer none, .int .i64 id] w fun e w' => e = .returned (.int .i64 1) ∧ Below w.heap.size w w'
  nil_order : ∀ (id : Int) (w : World), Calls Try.prog 16 #[.pointer none, .int .i64 id] w fun e w' => e = .returned (.tuple #[oval od0, .int .i64 1]) ∧ Below w.heap.size w w'
  nil_orders : ∀ (w : World), Calls Try.prog 15 #[.pointer none] w fun e w' => (∃ q c, e = .returned (.slice q 0 c)) ∧ Below w.heap.size w w'
theorem Face.keep (I : Face) {w w' : World} {B h : Nat} {F : Nat → Prop} {l : List Od} (hp : I.DB w B h F l) (hb : Below w.heap.size w w') : I.DB w' B h F l :=
  I.turn hp (T := fun _ => False) (Turn.of_below hb) (fun _ _ hf => hf)
/-- A book, and that nothing older than it has turned. -/
def Bk (I : Face) (w0 w : World) (h : Nat) (l : List Od) : Prop := Good l ∧ Below w0.heap.size w0 w ∧ ∃ F, I.DB w w0.heap.size h F l
theorem Bk.below {I : Face} {w0 w w' : World} {h : Nat} {l : List Od} (h1 : Bk I w0 w h l) (hb : Below w.heap.size w w') : Bk I w0 w' h l := by
  obtain ⟨hg, h2, F, h3⟩ := h1
  exact ⟨hg, h2.trans (hb.mono h2.size), F, I.keep h3 hb⟩
theorem Bk.left {I : Face} {w0 w w' : World} {h : Nat} {F : Nat → Prop} {l l' : List Od} (h0 : Below w0.heap.size w0 w) (h1 : I.DB w w0.heap.size h F l) (hg : Good l') (h2 : Left I.DB w w0.heap.size h F l' w') : Bk I w0 w' h l' := by
  obtain ⟨F', h3, h4, h5⟩ := h2
  exact ⟨hg, h4.below h0 h0.size (fun i hi => (I.foot h1 hi).1), F', h3⟩
theorem bk_want {I : Face} {w0 w : World} {h : Nat} {l : List Od} (hb : Bk I w0 w h l) (product units : Int) (h1 : I64 product) (h2 : I64 units) :
    Calls Try.prog 12 #[.pointer (some ⟨h, 0, none⟩), .int .i64 product, .int .i64 units] w fun e w' => e = .returned (.tuple #[.int .i64 (wantF l product units).2.1, .int .i64 (wantF l product units).2.2]) ∧ Bk I w0 w' h (wantF l product units).1 := by
  obtain ⟨hg, hb0, F, h3⟩ := hb
  exact (I.want _ h F l product units w h3 hg h1 h2).mono fun e w' ⟨he, hl⟩ => ⟨he, Bk.left hb0 h3 (hg.wanted _ _) hl⟩
theorem bk_alloc {I : Face} {w0 w : World} {h : Nat} {l : List Od} (hb : Bk I w0 w h l) (id : Int) (h1 : I64 id) :
    Calls Try.prog 8 #[.pointer (some ⟨h, 0, none⟩), .int .i64 id] w fun e w' => e = .returned (.int .i64 (changeF l id 0 1).2) ∧ Bk I w0 w' h (changeF l id 0 1).1 := by
  obtain ⟨hg, hb0, F, h3⟩ := hb
  exact (I.alloc _ h F l id w h3 hg h1).mono fun e w' ⟨he, hl⟩ => ⟨he, Bk.left hb0 h3 (hg.change _ _ _ (by decide) (by decide)) hl⟩
theorem bk_free {I : Face} {w0 w : World} {h : Nat} {l : List Od} (hb : Bk I w0 w h l) (id : Int) (h1 : I64 id) :
    Calls Try.prog 10 #[.pointer (some ⟨h, 0, none⟩), .int .i64 id] w fun e w' => e = .returned (.int .i64 (changeF l id 1 0).2) ∧ Bk I w0 w' h (changeF l id 1 0).1 := by
  obtain ⟨hg, hb0, F, h3⟩ := hb
  exact (I.free _ h F l id w h3 hg h1).mono fun e w' ⟨he, hl⟩ => ⟨he, Bk.left hb0 h3 (hg.change _ _ _ (by decide) (by decide)) hl⟩
theorem bk_ship {I : Face} {w0 w : World} {h : Nat} {l : List Od} (hb : Bk I w0 w h l) (id : Int) (h1 : I64 id) :
    Calls Try.prog 11 #[.pointer (some ⟨h, 0, none⟩), .int .i64 id] w fun e w' => e = .returned (.int .i64 (changeF l id 1 2).2) ∧ Bk I w0 w' h (changeF l id 1 2).1 := by
  obtain ⟨hg, hb0, F, h3⟩ := hb
  exact (I.ship _ h F l id w h3 hg h1).mono fun e w' ⟨he, hl⟩ => ⟨he, Bk.left hb0 h3 (hg.change _ _ _ (by decide) (by decide)) hl⟩
theorem bk_order {I : Face} {w0 w : World} {h : Nat} {l : List Od} (hb : Bk I w0 w h l) (id : Int) (h1 : I64 id) :
    Calls Try.prog 16 #[.pointer (some ⟨h, 0, none⟩), .int .i64 id] w fun e w' => e = .returned (.tuple #[oval (orderF l id).1, .int .i64 (orderF l id).2]) ∧ Below w.heap.size w w' := by
  obtain ⟨hg, _, F, h3⟩ := hb
  exact I.order _ h F l id w h3 hg h1
theorem bk_orders {I : Face} {w0 w : World} {h : Nat} {l : List Od} (hb : Bk I w0 w h l) :
    Calls Try.prog 15 #[.pointer (some ⟨h, 0, none⟩)] w fun e w' => ∃ v, e = .returned v ∧ w'.ownsRow w.heap.size 40 4 v l.length (l.flatMap ocells) ∧ Below w.heap.size w w' := by
  obtain ⟨hg, _, F, h3⟩ := hb
  exact I.orders _ h F l w h3 hg
end Or
end Go.Proofs.Ytpkniomjohjbiaa
