/- What layer 9's law leans on of package stays: a bundle of contracts, whatever the package is like inside; a step in plain words. No condition but those written. What layer 13's laws, and later layers, lean on of package ledger: a bundle of contracts, whatever the package is like inside. No condition but those written. What layer 6's laws lean on of package series: a bundle of contracts, whatever the package is like inside. No condition but those written. Copies within rows of things of several cells: plain laws, of no program. No condition but those written. Walks over slices.Insert and slices.Clone at readings. Conditions: the call owns the row; what is inserted lies in another block. Walks over package series: what may be, what is ahead, the two closures. No condition but those written. Walks over package series: the two closures, and the place of a reading. No condition but those written. -/
import Derived.Test.YtehiclmkdpcplaaQ03
import Derived.Test.YtehiclmkdpcplaaQ01
import Derived.Test.YtehiclmkdpcplaaQ04
import Derived.Test.YtehiclmkdpcplaaQ02
import Derived.Shelf.Spec.SlicesInsert
import Derived.Lib.AppendZerosOnto
import Derived.Laws.NewBlocks
import Derived.Lib.Overlaps
import Derived.Lib.SliceRun
import Derived.Deep.RegionLaw
import Derived.StillTailTactics
namespace Go.Proofs.Ytehiclmkdpcplaa
open Go.RowKit

namespace Sy
def scells (s : Sy) : List Value := [.int .i64 s.zone, .int .i64 s.frm, .int .i64 s.to]
theorem scells_len (s : Sy) : (scells s).length = 3 := rfl
/-- The last one goes on. -/
def On (l : List Sy) : Prop := ∃ A x, l = A ++ [x] ∧ x.to = -1
/-- Where steps have led: stays, the minute, the zone (0: nowhere). -/
structure Inv (S : List Sy) (now inn : Int) : Prop where
  right : Right S
  now0 : 0 ≤ now
  goes : 0 < inn → ∃ A x, S = A ++ [x] ∧ x.to = -1 ∧ x.frm ≤ now ∧ x.zone = inn
  ended : ¬ 0 < inn → inn = 0 ∧ ∀ x, S.getLast? = some x → 0 ≤ x.to ∧ x.to ≤ now
theorem inv_start : Inv [] 0 0 := ⟨right_nil, Int.le_refl _, fun h => by omega, fun _ => ⟨rfl, fun x h => by simp at h⟩⟩
theorem inv_on {S : List Sy} {now inn d : Int} (h : Inv S now inn) (hd : 0 ≤ d) : Inv S (now + d) inn :=
  ⟨h.right, by have := h.now0; omega, fun hi => by
    obtain ⟨A, x, e, h1, h2, h3⟩ := h.goes hi
    exact ⟨A, x, e, h1, by omega, h3⟩, fun hi => ⟨(h.ended hi).1, fun x hx => by
    have := (h.ended hi).2 x hx
    omega⟩⟩
theorem inv_may {S : List Sy} {now inn : Int} (h : Inv S now inn) : May S now ↔ (0 < inn ∨ S = [] ∨ ∃ x, S.getLast? = some x ∧ x.to = now) := by
  constructor
  · intro hm
    by_cases hi : 0 < inn
    · exact .inl hi
    · right
      rcases ends_of S with rfl | ⟨A, s, rfl⟩
      · exact .inl rfl
      · right
        have hl : (A ++ [s]).getLast? = some s := List.getLast?_concat ..
        have h1 := (h.ended hi).2 s hl
        rcases may_last hm with ⟨e, _⟩ | e
        · omega
        · exact ⟨s, hl, e⟩
  · intro hc
    refine ⟨h.right, h.now0, fun s hs => ?_⟩
    rcases hc with hi | rfl | ⟨x, hx, e⟩
    · obtain ⟨A, x, e, h1, h2, _⟩ := h.goes hi
      rw [e, List.getLast?_concat] at hs
      rw [← Option.some.inj hs]
      exact .inl ⟨h1, h2⟩
    · simp at hs
    · rw [hx] at hs
      rw [← Option.some.inj hs]
      exact .inr e
theorem inv_goes {S : List Sy} {now inn : Int} (h : Inv S now inn) : On S ↔ 0 < inn := by
  constructor
  · rintro ⟨A, x, rfl, hx⟩
    by_cases hi : 0 < inn
    · exact hi
    · have := (h.ended hi).2 x (List.getLast?_concat ..)
      omega
  · intro hi
    obtain ⟨A, x, e, h1, _⟩ := h.goes hi
    exact ⟨A, x, e, h1⟩
/-- A step into a zone. -/
theorem inv_enter {S : List Sy} {now inn z : Int} (h : Inv S now inn) (hm : May S now) (hz : 1 ≤ z) :
    Inv (goS (untilS S now) z now) now z ∧ ∀ m, zoneS (goS (untilS S now) z now) m = if m < now then zoneS S m else z := by
  obtain ⟨h1, h2⟩ := until_ok hm
  obtain ⟨g1, A, x, e, gx, gf, gz⟩ := go_ok h1 h2 h.now0 hz
  refine ⟨⟨g1, h.now0, fun _ => ⟨A, x, e, gx, gf, gz⟩, fun hn => by omega⟩, fun m => ?_⟩
  rw [zone_go h1 h2]
  by_cases hm' : m < now
  · rw [if_pos hm', if_pos hm', zone_until hm hm']
  · rw [if_neg hm', if_neg hm']
/-- A step out. -/
theorem inv_leave {S : List Sy} {now inn : Int} (h : Inv S now inn) (hi : 0 < inn) :
    May S now ∧ Inv (untilS S now) now 0 ∧ ∀ m, zoneS (untilS S now) m = if m < now then zoneS S m else 0 := by
  have hm := (inv_may h).2 (.inl hi)
  obtain ⟨h1, h2⟩ := until_ok hm
  refine ⟨hm, ⟨shut_right h1, h.now0, fun hh => by omega, fun _ => ⟨rfl, fun x hx => ?_⟩⟩, fun m => ?_⟩
  · rw [h2 x hx]
    exact ⟨h.now0, Int.le_refl _⟩
  · by_cases hm' : m < now
    · rw [if_pos hm', zone_until hm hm']
    · rw [if_neg hm', zone_shut h1 h2 (by omega)]
theorem until_len (l : List Sy) (now : Int) : (untilS l now).length ≤ l.length := by
  rcases ends_of l with rfl | ⟨A, s, rfl⟩
  · exact Nat.le_refl _
  · by_cases h : s.to = -1
    · by_cases hn : s.frm < now
      · rw [until_cut h hn]
        simp
      · rw [until_drop h hn]
        simp
    · rw [until_shut h]
      exact Nat.le_refl _
theorem go_len (U : List Sy) (z now : Int) : (goS U z now).length ≤ U.length + 1 := by
  rcases ends_of U with rfl | ⟨B, u, rfl⟩
  · rw [go_nil]
    simp
  · by_cases hc : u.zone = z
    · subst hc
      rw [go_same]
      simp
    · rw [go_new hc]
      simp
def UptoEnd (U : List Sy) (w : World) (e : Ending) (w' : World) : Prop := ∃ v, e = .returned v ∧ w'.ownsRow w.heap.size 52 3 v U.length (U.flatMap scells) ∧ Below w.heap.size w w'
/-- Stays that are handed out, without an error: the call's own row. -/
def OkEnd (L : List Sy) (w : World) (e : Ending) (w' : World) : Prop := ∃ v, e = .returned (.tuple #[v, .int .i64 0]) ∧ w'.ownsRow w.heap.size 52 3 v L.length (L.flatMap scells) ∧ Below w.heap.size w w'
/-- ErrArg, and nothing. -/
def NoEnd (w : World) (e : Ending) (w' : World) : Prop := e = .returned (.tuple #[.slice none 0 0, .int .i64 1]) ∧ Below w.heap.size w w'
/-- Contracts of package stays. -/
structure Face where
  right : ∀ (p : Option Addr) (n c : Nat) (S : List Sy) (w : World), Rw 3 scells w p n S → n ≤ 1000000 → Calls Try.prog 43 #[.slice p n c] w fun e w' => e = .returned (.bool (rightB S)) ∧ Below w.heap.size w w'
  upto : ∀ (p : Option Addr) (n c : Nat) (S : List Sy) (m : Int) (w : World), Rw 3 scells w p n S → n ≤ 1000000 → n ≤ c → Calls Try.prog 26 #[.slice p n c, .int .i64 m] w (UptoEnd (uptoV S m) w)
end Sy
end Go.Proofs.Ytehiclmkdpcplaa

namespace Go.Proofs.Ytehiclmkdpcplaa
open Go.RowKit

namespace Lg
open Se
def I64 (x : Int) : Prop := -9223372036854775808 ≤ x ∧ x ≤ 9223372036854775807
/-- Stays' numbers fit. -/
def Sok (S : List Sy.Sy) : Prop := ∀ s ∈ S, I64 s.zone ∧ I64 s.frm ∧ I64 s.to
/-- Contracts of package ledger: a ledger at block h, its memory F, its zones in the order in which they came. -/
structure Face where
  DB : World → Nat → Nat → (Nat → Prop) → List Zl → Prop
  foot : ∀ {w : World} {B h : Nat} {F : Nat → Prop} {st : List Zl} {k : Nat}, DB w B h F st → F k → B ≤ k ∧ k < w.heap.size
  turn : ∀ {w w' : World} {B h : Nat} {F T : Nat → Prop} {st : List Zl}, DB w B h F st → Turn T w w' → (∀ k, F k → ¬ T k) → DB w' B h F st
  new : ∀ (w : World), Calls Try.prog 19 #[] w fun e w' => ∃ h F, e = .returned (.pointer (some ⟨h, 0, none⟩)) ∧ DB w' w.heap.size h F [] ∧ Below w.heap.size w w'
  add : ∀ (B h : Nat) (F : Nat → Prop) (st : List Zl) (z : Ms.Zn) (w : World), DB w B h F st → Good st 1000 → st.length ≤ 1000 → I64 z.id →
    Calls Try.prog 17 #[.pointer (some ⟨h, 0, none⟩), Ms.zval z] w fun e w' => e = .returned (.int .i64 ((addZ st z).1 : Nat)) ∧ Left DB w B h F (addZ st z).2 w'
  put : ∀ (B h : Nat) (F : Nat → Prop) (st : List Zl) (zone : Int) (r : Rd) (w : World), DB w B h F st → Good st 1000 → st.length ≤ 1000 → I64 zone →
    Calls Try.prog 8 #[.pointer (some ⟨h, 0, none⟩), .int .i64 zone, rval r] w fun e w' => e = .returned (.tuple #[.bool (putZ st zone r).1.1, .int .i64 ((putZ st zone r).1.2 : Nat)]) ∧ Left DB w B h F (putZ st zone r).2 w'
  expo : ∀ (B h : Nat) (F : Nat → Prop) (st : List Zl) (lim : Int) (p : Option Addr) (n c : Nat) (S : List Sy.Sy) (m : Int) (w : World), DB w B h F st → Good st 1000 → st.length ≤ 1000 → I64 lim → I64 m → Rw 3 Sy.scells w p n S → n ≤ 100000 → n ≤ c → Sok S → (∀ a, p = some a → 0 < n → ¬ F a.block) →
    Calls Try.prog 10 #[.pointer (some ⟨h, 0, none⟩), .int .i64 lim, .slice p n c, .int .i64 m] w fun e w' => e = .returned (.int .i64 (expo st lim S m)) ∧ Left DB w B h F st w'
  air : ∀ (B h : Nat) (F : Nat → Prop) (st : List Zl) (zone m : Int) (w : World), DB w B h F st → Good st 1000 → st.length ≤ 1000 → I64 zone → I64 m →
    Calls Try.prog 12 #[.pointer (some ⟨h, 0, none⟩), .int .i64 zone, .int .i64 m] w fun e w' => e = .returned (.tuple #[.int .i64 (airZ st zone m).1, .int .i64 ((airZ st zone m).2 : Nat)]) ∧ Below w.heap.size w w'
  told : ∀ (B h : Nat) (F : Nat → Prop) (st : List Zl) (zone : Int) (w : World), DB w B h F st → Good st 1000 → st.length ≤ 1000 → I64 zone →
    Calls Try.prog 15 #[.pointer (some ⟨h, 0, none⟩), .int .i64 zone] w fun e w' => ∃ v, e = .returned v ∧ w'.ownsRow w.heap.size 37 3 v (readZ st zone).length ((readZ st zone).flatMap rcells) ∧ Below w.heap.size w w'
  nil_add : ∀ (z : Ms.Zn) (w : World), Calls Try.prog 17 #[.pointer none, Ms.zval z] w fun e w' => e = .returned (.int .i64 1) ∧ Below w.heap.size w w'
  nil_put : ∀ (zone : Int) (r : Rd) (w : World), Calls Try.prog 8 #[.pointer none, .int .i64 zone, rval r] w fun e w' => e = .returned (.tuple #[.bool false, .int .i64 1]) ∧ Below w.heap.size w w'
  nil_expo : ∀ (lim : Int) (p : Option Addr) (n c : Nat) (S : List Sy.Sy) (m : Int) (w : World), Rw 3 Sy.scells w p n S → n ≤ 100000 → n ≤ c → Calls Try.prog 10 #[.pointer none, .int .i64 lim, .slice p n c, .int .i64 m] w fun e w' => e = .returned (.int .i64 0) ∧ Below w.heap.size w w'
  nil_air : ∀ (zone m : Int) (w : World), Calls Try.prog 12 #[.pointer none, .int .i64 zone, .int .i64 m] w fun e w' => e = .returned (.tuple #[.int .i64 0, .int .i64 1]) ∧ Below w.heap.size w w'
  nil_told : ∀ (zone : Int) (w : World), Calls Try.prog 15 #[.pointer none, .int .i64 zone] w fun e w' => (∃ q c, e = .returned (.slice q 0 c)) ∧ Below w.heap.size w w'
/-- What moves with memory. -/
def Turns (D : World → Nat → Nat → (Nat → Prop) → List Zl → Prop) : Prop := ∀ (w w' : World) (B h : Nat) (F T : Nat → Prop) (st : List Zl), D w B h F st → Turn T w w' → (∀ k, F k → ¬ T k) → D w' B h F st
def Feeted (D : World → Nat → Nat → (Nat → Prop) → List Zl → Prop) : Prop := ∀ (w : World) (B h : Nat) (F : Nat → Prop) (st : List Zl) (k : Nat), D w B h F st → F k → B ≤ k ∧ k < w.heap.size
theorem Face.turns (I : Face) : Turns I.DB := fun _ _ _ _ _ _ _ h t s => I.turn h t s
theorem Face.feeted (I : Face) : Feeted I.DB := fun _ _ _ _ _ _ h k => I.foot h k
theorem rg_turns : Turns Rg := fun _ _ _ _ _ _ _ h t s => h.turn t s
theorem rg_feeted : Feeted Rg := fun _ _ _ _ _ _ h k => h.foot k
theorem Face.keep (I : Face) {w w' : World} {B h : Nat} {F : Nat → Prop} {st : List Zl} (hp : I.DB w B h F st) (hb : Below w.heap.size w w') : I.DB w' B h F st :=
  I.turn hp (T := fun _ => False) (Turn.of_below hb) (fun _ _ hf => hf)
/-- What lies in X stays. -/
def StillX (X : Nat → Prop) (w w' : World) : Prop := ∃ T, Turn T w w' ∧ ∀ k, X k → ¬ T k
theorem still_below {X : Nat → Prop} {w w' : World} (h : Below w.heap.size w w') : StillX X w w' := ⟨fun _ => False, Turn.of_below h, fun _ _ hf => hf⟩
theorem StillX.size {X : Nat → Prop} {w w' : World} (h : StillX X w w') : w.heap.size ≤ w'.heap.size := by
  obtain ⟨T, ht, _⟩ := h
  exact ht.size
/-- Two ledgers side by side, of two sorts, behind a world w0, and blocks X that are apart from both. -/
structure Both (D1 D2 : World → Nat → Nat → (Nat → Prop) → List Zl → Prop) (w0 : World) (X : Nat → Prop) (h g : Nat) (w : World) (s t : List Zl) : Prop where
  bo : ∃ F G, D1 w w0.heap.size h F s ∧ D2 w w0.heap.size g G t ∧ (∀ k, F k → ¬ G k) ∧ (∀ k, F k → w0.heap.size ≤ k ∧ k < w.heap.size ∧ ¬ X k) ∧ ∀ k, G k → w0.heap.size ≤ k ∧ k < w.heap.size ∧ ¬ X k
  xs : ∀ k, X k → k < w.heap.size
  bel : Below w0.heap.size w0 w
section
variable {D1 D2 : World → Nat → Nat → (Nat → Prop) → List Zl → Prop} {w0 : World} {X : Nat → Prop} {h g : Nat}
theorem both_below (t1 : Turns D1) (t2 : Turns D2) {w w' : World} {s t : List Zl} (hb : Both D1 D2 w0 X h g w s t) (hw : Below w.heap.size w w') : Both D1 D2 w0 X h g w' s t := by
  obtain ⟨⟨F, G, h1, h2, h3, h4, h5⟩, h6, h7⟩ := hb
  have hs := hw.size
  have hT : Turn (fun _ => False) w w' := Turn.of_below hw
  exact ⟨⟨F, G, t1 _ _ _ _ _ _ _ h1 hT (fun _ _ hf => hf), t2 _ _ _ _ _ _ _ h2 hT (fun _ _ hf => hf), h3, fun k hk => ⟨(h4 k hk).1, by have := (h4 k hk).2.1; omega, (h4 k hk).2.2⟩, fun k hk => ⟨(h5 k hk).1, by have := (h5 k hk).2.1; omega, (h5 k hk).2.2⟩⟩,
    fun k hk => by have := h6 k hk; omega, h7.trans (hw.mono h7.size)⟩
/-- New memory stands apart. -/
theorem both_more (t1 : Turns D1) (t2 : Turns D2) {w w' : World} {s t : List Zl} {Y : Nat → Prop} (hb : Both D1 D2 w0 X h g w s t) (hw : Below w.heap.size w w') (hY : ∀ k, Y k → w.heap.size ≤ k ∧ k < w'.heap.size) : Both D1 D2 w0 (fun k => X k ∨ Y k) h g w' s t := by
  have hb' := both_below t1 t2 hb hw
  obtain ⟨⟨F, G, h1, h2, h3, h4, h5⟩, h6, h7⟩ := hb
  have hs := hw.size
  have hT : Turn (fun _ => False) w w' := Turn.of_below hw
  refine ⟨⟨F, G, t1 _ _ _ _ _ _ _ h1 hT (fun _ _ hf => hf), t2 _ _ _ _ _ _ _ h2 hT (fun _ _ hf => hf), h3, fun k hk => ⟨(h4 k hk).1, by have := (h4 k hk).2.1; omega, fun hx => ?_⟩, fun k hk => ⟨(h5 k hk).1, by have := (h5 k hk).2.1; omega, fun hx => ?_⟩⟩,
    fun k hk => ?_, hb'.bel⟩
  · rcases hx with hx | hx
    · exact (h4 k hk).2.2 hx
    · have := (h4 k hk).2.1
      have := (hY k hx).1
      omega
  · rcases hx with hx | hx
    · exact (h5 k hk).2.2 hx
    · have := (h5 k hk).2.1
      have := (hY k hx).1
      omega
  · rcases hk with hk | hk
    · have := h6 k hk
      omega
    · exact (hY k hk).2
theorem both_less {w : World} {s t : List Zl} {Y : Nat → Prop} (hb : Both D1 D2 w0 X h g w s t) (hY : ∀ k, Y k → X k) : Both D1 D2 w0 Y h g w s t := by
  obtain ⟨⟨F, G, h1, h2, h3, h4, h5⟩, h6, h7⟩ := hb
  exact ⟨⟨F, G, h1, h2, h3, fun k hk => ⟨(h4 k hk).1, (h4 k hk).2.1, fun hx => (h4 k hk).2.2 (hY k hx)⟩, fun k hk => ⟨(h5 k hk).1, (h5 k hk).2.1, fun hx => (h5 k hk).2.2 (hY k hx)⟩⟩, fun k hk => h6 k (hY k hk), h7⟩
/-- The first one turns. -/
theorem both_1 (t2 : Turns D2) (f1 : Feeted D1) {w w' : World} {s s' t : List Zl} (hb : Both D1 D2 w0 X h g w s t) {F G : Nat → Prop} (h1 : D1 w w0.heap.size h F s) (h2 : D2 w w0.heap.size g G t) (h3 : ∀ k, F k → ¬ G k) (h4 : ∀ k, F k → w0.heap.size ≤ k ∧ k < w.heap.size ∧ ¬ X k)
    (h5 : ∀ k, G k → w0.heap.size ≤ k ∧ k < w.heap.size ∧ ¬ X k) (hl : Left D1 w w0.heap.size h F s' w') : Both D1 D2 w0 X h g w' s' t ∧ StillX X w w' := by
  obtain ⟨F', hd, hT, hF⟩ := hl
  have hs := hT.size
  have _ := h1
  refine ⟨⟨⟨F', G, hd, t2 _ _ _ _ _ _ _ h2 hT (fun k hk hf => h3 k hf hk), fun k hk hg => ?_, fun k hk => ?_, fun k hk => ⟨(h5 k hk).1, by have := (h5 k hk).2.1; omega, (h5 k hk).2.2⟩⟩, fun k hk => by have := hb.xs k hk; omega, ?_⟩, F, hT, fun k hk hf => (h4 k hf).2.2 hk⟩
  · rcases hF k hk with hk | hk
    · exact h3 k hk hg
    · have := (h5 k hg).2.1
      omega
  · refine ⟨(f1 _ _ _ _ _ _ hd hk).1, (f1 _ _ _ _ _ _ hd hk).2, fun hx => ?_⟩
    rcases hF k hk with hk | hk
    · exact (h4 k hk).2.2 hx
    · have := hb.xs k hx
      omega
  · exact hT.below hb.bel hb.bel.size (fun i hi => (h4 i hi).1)
/-- The second one turns. -/
theorem both_2 (t1 : Turns D1) (f2 : Feeted D2) {w w' : World} {s t t' : List Zl} (hb : Both D1 D2 w0 X h g w s t) {F G : Nat → Prop} (h1 : D1 w w0.heap.size h F s) (h2 : D2 w w0.heap.size g G t) (h3 : ∀ k, F k → ¬ G k) (h4 : ∀ k, F k → w0.heap.size ≤ k ∧ k < w.heap.size ∧ ¬ X k)
    (h5 : ∀ k, G k → w0.heap.size ≤ k ∧ k < w.heap.size ∧ ¬ X k) (hl : Left D2 w w0.heap.size g G t' w') : Both D1 D2 w0 X h g w' s t' ∧ StillX X w w' := by
  obtain ⟨G', hd, hT, hG⟩ := hl
  have hs := hT.size
  have _ := h2
  refine ⟨⟨⟨F, G', t1 _ _ _ _ _ _ _ h1 hT (fun k hk hf => h3 k hk hf), hd, fun k hk hg => ?_, fun k hk => ⟨(h4 k hk).1, by have := (h4 k hk).2.1; omega, (h4 k hk).2.2⟩, fun k hk => ?_⟩, fun k hk => by have := hb.xs k hk; omega, ?_⟩, G, hT, fun k hk hf => (h5 k hf).2.2 hk⟩
  · rcases hG k hg with hg | hg
    · exact h3 k hk hg
    · have := (h4 k hk).2.1
      omega
  · refine ⟨(f2 _ _ _ _ _ _ hd hk).1, (f2 _ _ _ _ _ _ hd hk).2, fun hx => ?_⟩
    rcases hG k hk with hk | hk
    · exact (h5 k hk).2.2 hx
    · have := hb.xs k hx
      omega
  · exact hT.below hb.bel hb.bel.size (fun i hi => (h5 i hi).1)
/-- A call of the first one. -/
theorem both_call1 (t2 : Turns D2) (f1 : Feeted D1) {w : World} {s s' t : List Zl} {f : FuncId} {a : Array Value} {v : Value} (hb : Both D1 D2 w0 X h g w s t)
    (K : ∀ F, D1 w w0.heap.size h F s → (∀ k, F k → w0.heap.size ≤ k ∧ ¬ X k) → Calls Try.prog f a w fun e w' => e = .returned v ∧ Left D1 w w0.heap.size h F s' w') :
    Calls Try.prog f a w fun e w' => e = .returned v ∧ Both D1 D2 w0 X h g w' s' t ∧ StillX X w w' := by
  obtain ⟨F, G, h1, h2, h3, h4, h5⟩ := hb.bo
  refine (K F h1 (fun k hk => ⟨(h4 k hk).1, (h4 k hk).2.2⟩)).mono ?_
  rintro e w' ⟨rfl, hl⟩
  exact ⟨rfl, both_1 t2 f1 hb h1 h2 h3 h4 h5 hl⟩
/-- A call of the second one. -/
theorem both_call2 (t1 : Turns D1) (f2 : Feeted D2) {w : World} {s t t' : List Zl} {f : FuncId} {a : Array Value} {v : Value} (hb : Both D1 D2 w0 X h g w s t)
    (K : ∀ G, D2 w w0.heap.size g G t → (∀ k, G k → w0.heap.size ≤ k ∧ ¬ X k) → Calls Try.prog f a w fun e w' => e = .returned v ∧ Left D2 w w0.heap.size g G t' w') :
    Calls Try.prog f a w fun e w' => e = .returned v ∧ Both D1 D2 w0 X h g w' s t' ∧ StillX X w w' := by
  obtain ⟨F, G, h1, h2, h3, h4, h5⟩ := hb.bo
  refine (K G h2 (fun k hk => ⟨(h5 k hk).1, (h5 k hk).2.2⟩)).mono ?_
  rintro e w' ⟨rfl, hl⟩
  exact ⟨rfl, both_2 t1 f2 hb h1 h2 h3 h4 h5 hl⟩
end
end Lg
end Go.Proofs.Ytehiclmkdpcplaa

namespace Go.Proofs.Ytehiclmkdpcplaa
open Go.RowKit

namespace Se
/-- Contracts of package series: a series at block h, its memory F, its readings S in order. -/
structure Face where
  PS : World → Nat → Nat → (Nat → Prop) → Int → Int → List Rd → Prop
  foot : ∀ {w : World} {B h : Nat} {F : Nat → Prop} {wo ga : Int} {S : List Rd} {k : Nat}, PS w B h F wo ga S → F k → B ≤ k ∧ k < w.heap.size
  turn : ∀ {w w' : World} {B h : Nat} {F T : Nat → Prop} {wo ga : Int} {S : List Rd}, PS w B h F wo ga S → Turn T w w' → (∀ k, F k → ¬ T k) → PS w' B h F wo ga S
  new_yes : ∀ (wo ga : Int) (w : World), mayB wo ga = true → Calls Try.prog 34 #[.int .i64 wo, .int .i64 ga] w fun e w' =>
    ∃ h F, e = .returned (.tuple #[.pointer (some ⟨h, 0, none⟩), .int .i64 0]) ∧ PS w' w.heap.size h F wo ga [] ∧ Below w.heap.size w w'
  new_no : ∀ (wo ga : Int) (w : World), mayB wo ga = false → Calls Try.prog 34 #[.int .i64 wo, .int .i64 ga] w fun e w' =>
    e = .returned (.tuple #[.pointer none, .int .i64 1]) ∧ Below w.heap.size w w'
  put : ∀ (B h : Nat) (F : Nat → Prop) (wo ga : Int) (S : List Rd) (r : Rd) (w : World), PS w B h F wo ga S → Sorted S → (∀ x ∈ S, rightB x = true) → S.length ≤ 1000 → Calls Try.prog 37 #[.pointer (some ⟨h, 0, none⟩), rval r] w fun e w' =>
    e = .returned (.tuple #[.bool (putR S r).1, .int .i64 ((putR S r).2.1 : Nat)]) ∧ ∃ F', PS w' B h F' wo ga (sortL (putR S r).2.2) ∧ Turn F w w' ∧ ∀ k, F' k → F k ∨ w.heap.size ≤ k
  airAt : ∀ (B h : Nat) (F : Nat → Prop) (wo ga : Int) (S : List Rd) (m : Int) (w : World), PS w B h F wo ga S → Sorted S → (∀ x ∈ S, rightB x = true) → mayB wo ga = true → S.length ≤ 1000 → -9223372036854775808 ≤ m → m ≤ 9223372036854775807 →
    Calls Try.prog 30 #[.pointer (some ⟨h, 0, none⟩), .int .i64 m] w fun e w' => e = .returned (.int .i64 (air wo ga S m)) ∧ Below w.heap.size w w'
  nextAt : ∀ (B h : Nat) (F : Nat → Prop) (wo ga : Int) (S : List Rd) (m : Int) (w : World), PS w B h F wo ga S → Sorted S → (∀ x ∈ S, rightB x = true) → mayB wo ga = true → S.length ≤ 1000 → -9223372036854775808 ≤ m → m ≤ 9223372036854775807 →
    Calls Try.prog 84 #[.pointer (some ⟨h, 0, none⟩), .int .i64 m] w fun e w' => e = .returned (.int .i64 (next ga S m)) ∧ Below w.heap.size w w'
  told : ∀ (B h : Nat) (F : Nat → Prop) (wo ga : Int) (S : List Rd) (w : World), PS w B h F wo ga S → Sorted S → S.length ≤ 1000 →
    Calls Try.prog 32 #[.pointer (some ⟨h, 0, none⟩)] w fun e w' => ∃ v, e = .returned v ∧ w'.ownsRow w.heap.size 37 3 v S.length (S.flatMap rcells) ∧ Below w.heap.size w w'
  nil_put : ∀ (r : Rd) (w : World), Calls Try.prog 37 #[.pointer none, rval r] w fun e w' => e = .returned (.tuple #[.bool false, .int .i64 1]) ∧ Below w.heap.size w w'
  nil_at : ∀ (m : Int) (w : World), Calls Try.prog 30 #[.pointer none, .int .i64 m] w fun e w' => e = .returned (.int .i64 0) ∧ Below w.heap.size w w'
  nil_next : ∀ (m : Int) (w : World), Calls Try.prog 84 #[.pointer none, .int .i64 m] w fun e w' => e = .returned (.int .i64 (-1)) ∧ Below w.heap.size w w'
  nil_told : ∀ (w : World), Calls Try.prog 32 #[.pointer none] w fun e w' => e = .returned (.slice none 0 0) ∧ Below w.heap.size w w'
theorem Face.keep (I : Face) {w w' : World} {B h : Nat} {F : Nat → Prop} {wo ga : Int} {S : List Rd} (hp : I.PS w B h F wo ga S) (hb : Below w.heap.size w w') : I.PS w' B h F wo ga S :=
  I.turn hp (T := fun _ => False) (Turn.of_below hb) (fun _ _ hf => hf)
theorem Face.next_below (I : Face) {w wi w' : World} {B h : Nat} {F : Nat → Prop} {wo ga : Int} {S S' : List Rd} (hp : I.PS wi B h F wo ga S) (hb : Below B w wi) (hB : B ≤ wi.heap.size) (h' : ∃ F', I.PS w' B h F' wo ga S' ∧ Turn F wi w' ∧ ∀ k, F' k → F k ∨ wi.heap.size ≤ k) :
    ∃ F', I.PS w' B h F' wo ga S' ∧ Below B w w' := by
  obtain ⟨F', h1, ht, _⟩ := h'
  exact ⟨F', h1, ht.below hb hB (fun i hi => (I.foot hp hi).1)⟩
end Se
end Go.Proofs.Ytehiclmkdpcplaa

namespace Go.Proofs.Ytehiclmkdpcplaa
open Go.RowKit

/-- What a row holds when cells were copied into it. -/
def spl (cur : Array Value) (o : Nat) (cs : List Value) : Array Value := (cur.toList.take o ++ cs ++ cur.toList.drop (o + cs.length)).toArray
theorem spl_size (cur : Array Value) (o : Nat) (cs : List Value) (h : o + cs.length ≤ cur.size) : (spl cur o cs).size = cur.size := by
  simp [spl]
  omega
/-- copy, of things of any size in cells, into a block that is known whole. -/
theorem run_copy_lies {P : Program} (w : World) (dT sT ty elem : TypeId) (k g o dLen dCap : Nat) (a : Addr) (sLen sCap : Nat) (cur : Array Value) (t : TypeId) (cs : List Value)
    (hu : P.underlying dT = some (.slice elem)) (hs : (P.info? elem).map (·.size) = some k)
    (hg : Lies w g t cur) (hn : cs.length = Nat.min sLen dLen * k)
    (hsrc : ∀ j v, cs[j]? = some v → w.cell? (a.add j) = some v) (hfit : o + cs.length ≤ cur.size) (h1 : ∀ v ∈ cs, v.oneCell' = true) :
    (Builtin.copy_ #[dT, sT] ty #[.slice (some ⟨g, o, none⟩) dLen dCap, .slice (some a) sLen sCap]).run P w =
      .ok (goInt (Nat.min sLen dLen)) (w.setRow g (spl cur o cs)) := by
  have hl := run_loadCells_list (P := P) w a cs hsrc
  have hst := run_storeCells_at P g o t cs 0 cur w hg (by simpa using hfit) h1
  cases hq : P.info? elem with
  | none => simp [hq] at hs
  | some i =>
    have hi : i.size = k := by simpa [hq] using hs
    simp only [Nat.add_zero] at hst
    simp [Builtin.copy_, run_underlying hu, Builtin.lenOf, Builtin.firstCells, sizeOf, typeInfo, hq, hi, ← hn, hl, hst, spl]
theorem lies_setRow {w : World} {g : Nat} {t : TypeId} {cur : Array Value} (h : Lies w g t cur) (cs : Array Value) : Lies (w.setRow g cs) g t cs := setRow_heap w g cur cs t _ h
theorem turn_setRow {S : Nat → Prop} {a w : World} (h : Turn S a w) {g : Nat} (hg : S g ∨ a.heap.size ≤ g) (cs : Array Value) : Turn S a (w.setRow g cs) :=
  ⟨h.os, h.tape, h.output, by simpa using h.size, fun k hk hn => (setRow_other w g k cs (fun e => by
    subst e
    rcases hg with hg | hg
    · exact hn hg
    · omega)).trans (h.block k hk hn)⟩
theorem below_row {B g : Nat} {w0 w : World} (hb : Below B w0 w) (hg : B ≤ g) (cs : Array Value) : Below B w0 (w.setRow g cs) :=
  hb.trans ⟨rfl, rfl, rfl, by simp, fun k hk => setRow_other w g k cs (by omega)⟩
theorem zero_len (z : Array Value) (n : Nat) : (Builtin.zeroCells z n).toList.length = n * z.size := by rw [Array.length_toList, size_zeroCells]
theorem lies_own {w : World} {B g cap n : Nat} {e : TypeId} {k : Nat} {xs : List Value} (h : w.ownsRow B e k (.slice (some ⟨g, 0, none⟩) n cap) n xs) :
    ∃ cur, Lies w g e cur ∧ B ≤ g ∧ n ≤ cap ∧ cap ≤ 9223372036854775807 ∧ cur.size = cap * k ∧ cur.toList.take (n * k) = xs ∧ xs.length = n * k := by
  rcases h.2 with ⟨h0, _⟩ | ⟨g', cap', cur, e', hb, hh, hc, hm, hs, ht⟩
  · cases h0
  · cases e'
    unfold maxLen at hm
    exact ⟨cur, hh, hb, hc, hm, hs, ht, h.1⟩
theorem own_lies {w : World} {B g cap n : Nat} {e : TypeId} {k : Nat} {cur : Array Value} (h : Lies w g e cur) (hb : B ≤ g) (hn : n ≤ cap) (hc : cap ≤ 9223372036854775807) (hs : cur.size = cap * k) {xs : List Value} (ht : cur.toList.take (n * k) = xs) :
    w.ownsRow B e k (.slice (some ⟨g, 0, none⟩) n cap) n xs := by
  have h1 : n * k ≤ cap * k := Nat.mul_le_mul_right k hn
  refine ⟨?_, .inr ⟨g, cap, cur, rfl, hb, h, hn, by unfold maxLen; omega, hs, ht⟩⟩
  rw [← ht, List.length_take, Array.length_toList, hs]
  omega
/-- What a row holds when all behind a place was copied up, and new cells were laid there. -/
theorem spl_shift {A C D R : List Value} {cur : Array Value} (hcur : cur.toList = A ++ C ++ D) (hR : R.length ≤ D.length) :
    (spl (spl cur (A.length + R.length) C) A.length R).toList.take (A.length + R.length + C.length) = A ++ R ++ C := by
  have hlen : cur.toList.length = A.length + C.length + D.length := by
    rw [hcur]
    simp
    omega
  have h1 : (spl cur (A.length + R.length) C).toList = cur.toList.take (A.length + R.length) ++ C ++ cur.toList.drop (A.length + R.length + C.length) := by simp [spl]
  have h2 : (spl (spl cur (A.length + R.length) C) A.length R).toList = (spl cur (A.length + R.length) C).toList.take A.length ++ R ++ (spl cur (A.length + R.length) C).toList.drop (A.length + R.length) := by simp [spl]
  have hl : (cur.toList.take (A.length + R.length)).length = A.length + R.length := by
    rw [List.length_take]
    omega
  have h3 : (spl cur (A.length + R.length) C).toList.take A.length = A := by
    rw [h1, List.append_assoc, List.take_append_of_le_length (by rw [hl]; omega), List.take_take, show min A.length (A.length + R.length) = A.length by omega, hcur, List.append_assoc, List.take_left]
  have h4 : (spl cur (A.length + R.length) C).toList.drop (A.length + R.length) = C ++ cur.toList.drop (A.length + R.length + C.length) := by
    rw [h1, List.append_assoc, List.drop_append, hl]
    simp
  rw [h2, h3, h4, ← List.append_assoc]
  have : (A ++ R ++ C).length = A.length + R.length + C.length := by simp; omega
  rw [← this, List.take_left]
/-- What a new row holds: what stood ahead of a place, new cells, and what stood from there on. -/
theorem spl_grow (A C Z R : List Value) :
    (spl (spl (A ++ Z).toArray A.length R) (A.length + R.length) C).toList.take (A.length + R.length + C.length) = A ++ R ++ C := by
  have h1 : (spl (A ++ Z).toArray A.length R).toList = A ++ R ++ (A ++ Z).drop (A.length + R.length) := by simp [spl]
  have h2 : (spl (spl (A ++ Z).toArray A.length R) (A.length + R.length) C).toList = (spl (A ++ Z).toArray A.length R).toList.take (A.length + R.length) ++ C ++ (spl (A ++ Z).toArray A.length R).toList.drop (A.length + R.length + C.length) := by simp [spl]
  have h3 : (spl (A ++ Z).toArray A.length R).toList.take (A.length + R.length) = A ++ R := by
    have : (A ++ R).length = A.length + R.length := by simp
    rw [h1, ← this, List.take_left]
  rw [h2, h3]
  have : (A ++ R ++ C).length = A.length + R.length + C.length := by simp; omega
  rw [← this, List.take_left]
theorem flat_split {α : Type} {k : Nat} {enc : α → List Value} (hk : ∀ x, (enc x).length = k) (S : List α) (i : Nat) (hi : i ≤ S.length) :
    S.flatMap enc = (S.take i).flatMap enc ++ (S.drop i).flatMap enc ∧ ((S.take i).flatMap enc).length = i * k ∧ ((S.drop i).flatMap enc).length = (S.length - i) * k := by
  refine ⟨?_, ?_, ?_⟩
  · rw [← List.flatMap_append, List.take_append_drop]
  · rw [flat_len hk, List.length_take, Nat.min_eq_left hi]
  · rw [flat_len hk, List.length_drop]
theorem flat_ins {α : Type} {enc : α → List Value} (S : List α) (i : Nat) (x : α) : (S.take i ++ x :: S.drop i).flatMap enc = (S.take i).flatMap enc ++ enc x ++ (S.drop i).flatMap enc := by
  simp
/-- A slice of things that reads as a list, cell by cell. -/
theorem rw_cells {α : Type} {k : Nat} {enc : α → List Value} (hk : ∀ x, (enc x).length = k) {w : World} {b o n : Nat} {l : List α} (h : Rw k enc w (some ⟨b, o, none⟩) n l) (j : Nat) (u : Value) (hj : (l.flatMap enc)[j]? = some u) : w.cell? ⟨b, o + j, none⟩ = some u := by
  have hlt := (List.getElem?_eq_some_iff.1 hj).1
  rw [flat_len hk] at hlt
  have hk0 : 0 < k := by
    rcases Nat.eq_zero_or_pos k with h0 | h0
    · subst h0
      omega
    · exact h0
  have hd : j / k < l.length := (Nat.div_lt_iff_lt_mul hk0).2 hlt
  have hm : j % k < k := Nat.mod_lt _ hk0
  obtain ⟨b', o', e, hc⟩ := h.2 (by rw [← h.1]; exact Nat.lt_of_le_of_lt (Nat.zero_le _) hd)
  cases e
  have hx := List.getElem?_eq_getElem hd
  have e1 : j / k * k + j % k = j := Nat.div_add_mod' j k
  have := hc _ _ hx _ hm
  rw [Nat.add_assoc, e1] at this
  rw [this, ← flat_at hk l _ _ _ hx hm, e1]
  exact hj
theorem turn_of_grown {w w' : World} {v : Value} (hg : w.grownBy w' v.ownBlock) : Turn (fun k => v.ownBlock = some k) w w' :=
  (Turn.refl _ w).grown hg (fun _ hk => .inl hk)
end Go.Proofs.Ytehiclmkdpcplaa

namespace Go.Proofs.Ytehiclmkdpcplaa
open Go.RowKit

namespace Rd
theorem info : (Try.prog.info? 37).map (fun i => (i.zero, i.size, i.bytes)) = some (some (.agg #[.int .i64 0, .int .i64 0, .int .i64 0]), 3, 24) := by kernel_rfl
theorem size : (Try.prog.info? 37).map (·.size) = some 3 := by kernel_rfl
section
variable {α : Type} {enc : α → List Value}
set_option maxRecDepth 100000 in
set_option maxHeartbeats 4000000 in
/-- slices.Insert, of one thing, behind all. -/
theorem ins_end (hk : ∀ x, (enc x).length = 3) (h1 : ∀ x, ∀ u ∈ enc x, u.oneCell' = true) (B : Nat) (v : Value) (S : List α) (x : α) (bv : Nat) (w : World) (h : w.ownsRow B 37 3 v S.length (S.flatMap enc)) (hB : B ≤ w.heap.size) (hL : S.length ≤ 1000000) (hv : Lies w bv 37 (enc x).toArray) :
    Calls Try.prog 62 #[v, .int .i64 (S.length : Int), .slice (some ⟨bv, 0, none⟩) 1 1] w fun e w' =>
      ∃ v', e = .returned v' ∧ w'.ownsRow B 37 3 v' (S.length + 1) ((S ++ [x]).flatMap enc) ∧ Turn (fun k => v.ownBlock = some k) w w' ∧ (v'.ownBlock = v.ownBlock ∨ v'.ownBlock = some w.heap.size) := by
  obtain ⟨i0, hi, hz0, hz1, hz2⟩ := info_parts info
  obtain ⟨v', w', hr, h2, h3, _, h5⟩ := run_append_own_at (P := Try.prog) w B 44 44 37 i0 _ 3 24 Try.underlying44 hi hz0 hz1 hz2 rfl (by decide) v S.length (S.flatMap enc) h ⟨bv, 0, none⟩ 1 1 (enc x) (by rw [hk]) (fun j u hj => by rw [add_none, Nat.zero_add, hv.cell j]; simpa using hj) (h1 x) (by unfold maxLen; omega) (by omega) hB
  rw [flat_snoc] at h2
  have H2 := Lib.hid h2
  have H3 := Lib.hid (turn_of_grown h3)
  have H5 := Lib.hid h5
  obtain ⟨q, d, rfl⟩ := own_slice h
  have hd : S.length ≤ d ∧ d ≤ 9223372036854775807 := by
    rcases h.2 with ⟨h0, h00⟩ | ⟨g, cap, cur, h0, _, _, hc, hm, _⟩
    · injection h0 with _ _ h0
      omega
    · injection h0 with _ _ h0
      unfold maxLen at hm
      omega
  obtain ⟨hd1, hd2⟩ := hd
  clear h2 h3 h5 hi hz0 hz1 hz2 h hB hv
  have hl : (S.length : Int) ≤ 1000000 := by omega
  by_cases hcap : d = S.length
  all_goals
    go_enter Try.func62, Try.ntmps62
    go_wp2_with (at_builtin; refine Lib.wpList_append_run _ rfl _ _ _ _ rfl _ _ rfl rfl _ _ hr ?_)
    go_ret
    exact ⟨v', rfl, H2.out, H3.out, H5.out⟩
/-- What slices.overlaps tells of two blocks. -/
theorem apart (w : World) (a b : Addr) (la ca lb cb : Nat) (hne : a.block ≠ b.block) (ta tb : TypeId) (ca' cb' : Array Value) (ha : Lies w a.block ta ca') (hb : Lies w b.block tb cb') (hb0 : cb'.size ≠ 0) (ha0 : a = ⟨a.block, 0, none⟩) :
    (callFunc 70 #[.slice (some a) la ca, .slice (some b) lb cb]).run Try.prog w = .ok (.value (.bool false)) w := by
  have hfr : ∀ i, w.frozen? ⟨a.block, i, none⟩ = false := fun i => ha.frozen i
  rw [run_callFunc_extern Try.func70 (by kernel_rfl) (by kernel_rfl) (by kernel_rfl) (e := Extern.SlicesOverlaps.overlaps #[44, 44] #[4]) (by kernel_rfl),
    Lib.run_overlaps_apart w 44 4 37 Try.underlying44 3 Try.sizeOf37 a b la ca lb cb hne ta tb ca'.size cb'.size (by simp [World.shape?, show w.heap[a.block]? = _ from ha]) (by simp [World.shape?, show w.heap[b.block]? = _ from hb]) hb0 (by rw [ha0]; exact hfr 0) (hfr _)]
  rfl
set_option maxRecDepth 100000 in
set_option maxHeartbeats 4000000 in
/-- slices.Insert, of one thing, within, where there is room. -/
theorem ins_room (hk : ∀ x, (enc x).length = 3) (h1 : ∀ x, ∀ u ∈ enc x, u.oneCell' = true) (B g c : Nat) (S : List α) (i : Nat) (x : α) (bv : Nat) (w : World) (h : w.ownsRow B 37 3 (.slice (some ⟨g, 0, none⟩) S.length c) S.length (S.flatMap enc)) (hL : S.length ≤ 1000000) (hv : Lies w bv 37 (enc x).toArray) (hne : bv ≠ g) (hi : i < S.length) (hroom : S.length < c) :
    Calls Try.prog 62 #[.slice (some ⟨g, 0, none⟩) S.length c, .int .i64 (i : Int), .slice (some ⟨bv, 0, none⟩) 1 1] w fun e w' =>
      e = .returned (.slice (some ⟨g, 0, none⟩) (S.length + 1) c) ∧ w'.ownsRow B 37 3 (.slice (some ⟨g, 0, none⟩) (S.length + 1) c) (S.length + 1) ((S.take i ++ x :: S.drop i).flatMap enc) ∧ Turn (fun k => k = g) w w' := by
  obtain ⟨cur, HG, hB, hnc, hc63, hcs, htake, _⟩ := lies_own h
  obtain ⟨hsp, hlA, hlC⟩ := flat_split hk S i (Nat.le_of_lt hi)
  have hxl := hk x
  have hcur : cur.toList = (S.take i).flatMap enc ++ (S.drop i).flatMap enc ++ cur.toList.drop (S.length * 3) := by rw [← hsp, ← htake, List.take_append_drop]
  have h1A : ∀ u ∈ (S.take i).flatMap enc, u.oneCell' = true := fun u hu => by
    obtain ⟨y, _, hu⟩ := List.mem_flatMap.1 hu
    exact h1 y u hu
  have h1C : ∀ u ∈ (S.drop i).flatMap enc, u.oneCell' = true := fun u hu => by
    obtain ⟨y, _, hu⟩ := List.mem_flatMap.1 hu
    exact h1 y u hu
  have hins := flat_ins (enc := enc) S i x
  generalize (S.take i).flatMap enc = A at *
  generalize (S.drop i).flatMap enc = C at *
  have hD : (cur.toList.drop (S.length * 3)).length = (c - S.length) * 3 := by
    rw [List.length_drop, Array.length_toList, hcs, Nat.sub_mul]
  have hsh := spl_shift (A := A) (C := C) (R := enc x) hcur (by rw [hxl, hD]; omega)
  have hat : ∀ j, cur[j]? = cur.toList[j]? := fun j => by rw [Array.getElem?_toList]
  have HC : ∀ j u, C[j]? = some u → w.cell? ⟨g, i * 3 + j, none⟩ = some u := fun j u hj => by
    rw [HG.cell, hat, hcur, List.append_assoc, List.getElem?_append_right (by omega), hlA, List.getElem?_append_left (by have := (List.getElem?_eq_some_iff.1 hj).1; omega), show i * 3 + j - i * 3 = j by omega]
    exact hj
  have hov : ∀ o lb cb, (callFunc 70 #[.slice (some ⟨bv, 0, none⟩) 1 1, .slice (some ⟨g, o, none⟩) lb cb]).run Try.prog w = .ok (.value (.bool false)) w := fun o lb cb =>
    apart w ⟨bv, 0, none⟩ ⟨g, o, none⟩ 1 1 lb cb hne _ _ _ _ hv HG (by omega) rfl
  have hG1 : Lies w.drew g 37 cur := HG
  have hcp1 : ∀ ty dc sc, (Builtin.copy_ #[44, 44] ty #[.slice (some ⟨g, (i + 1) * 3, none⟩) (S.length - i) dc, .slice (some ⟨g, i * 3, none⟩) (S.length + 1 - i) sc]).run Try.prog w.drew = .ok (goInt (Nat.min (S.length + 1 - i) (S.length - i))) (w.drew.setRow g (spl cur ((i + 1) * 3) C)) := fun ty dc sc =>
    run_copy_lies w.drew 44 44 ty 37 3 g ((i + 1) * 3) _ dc ⟨g, i * 3, none⟩ _ sc cur _ C Try.underlying44 size hG1
      (by rw [hlC]; congr 1; simp only [Nat.min_def]; split <;> omega) (fun j u hj => by rw [add_none]; exact HC j u hj) (by rw [hlC, hcs]; omega) h1C
  obtain ⟨W1, hW1⟩ : ∃ W1, w.drew.setRow g (spl cur ((i + 1) * 3) C) = W1 := ⟨_, rfl⟩
  have hG2 : Lies W1 g 37 (spl cur ((i + 1) * 3) C) := by rw [← hW1]; exact lies_setRow hG1 _
  have hT1 : Turn (fun k => k = g) w W1 := by rw [← hW1]; exact turn_setRow (S := fun k => k = g) (Turn.refl _ w).drew (.inl rfl) _
  have hV1 : Lies W1 bv 37 (enc x).toArray := hv.turn hT1 hne
  have hss : (spl cur ((i + 1) * 3) C).size = cur.size := spl_size _ _ _ (by rw [hlC, hcs]; omega)
  have hcp2 : ∀ ty dc, (Builtin.copy_ #[44, 44] ty #[.slice (some ⟨g, i * 3, none⟩) (S.length + 1 - i) dc, .slice (some ⟨bv, 0, none⟩) 1 1]).run Try.prog W1 = .ok (goInt (Nat.min 1 (S.length + 1 - i))) (W1.setRow g (spl (spl cur ((i + 1) * 3) C) (i * 3) (enc x))) := fun ty dc =>
    run_copy_lies W1 44 44 ty 37 3 g (i * 3) _ dc ⟨bv, 0, none⟩ 1 1 _ _ (enc x) Try.underlying44 size hG2
      (by rw [hxl]; simp only [Nat.min_def]; split <;> omega) (fun j u hj => by rw [add_none, Nat.zero_add, hV1.cell]; simpa using hj) (by rw [hxl, hss, hcs]; omega) (h1 x)
  rw [hW1] at hcp1
  have HT2 := Lib.hid (turn_setRow (g := g) hT1 (.inl rfl) (spl (spl cur ((i + 1) * 3) C) (i * 3) (enc x)))
  have HO2 := Lib.hid (own_lies (B := B) (n := S.length + 1) (cap := c) (k := 3) (lies_setRow hG2 (spl (spl cur ((i + 1) * 3) C) (i * 3) (enc x))) hB (by omega) hc63 (by rw [spl_size _ _ _ (by rw [hxl, hss, hcs]; omega), hss, hcs]) (xs := (S.take i ++ x :: S.drop i).flatMap enc) (by
    rw [hins, ← hsh]
    rw [hlA, hxl, hlC]
    have e1 : i * 3 + 3 = (i + 1) * 3 := by omega
    have e2 : i * 3 + 3 + (S.length - i) * 3 = (S.length + 1) * 3 := by omega
    rw [e2, e1]))
  generalize (S.take i ++ x :: S.drop i).flatMap enc = Y at *
  generalize (spl (spl cur ((i + 1) * 3) C) (i * 3) (enc x)) = cur2 at *
  clear h hsp htake hv hcur hD
  generalize S.length = n at *
  have z1 : ((i : Int) == (n : Int)) = false := by simp; omega
  have z2 : ¬ ((i : Int) = (n : Int)) := by omega
  have z3 : (n : Int) + 1 ≤ (c : Int) := by omega
  have z4 : (i : Int) ≤ (n : Int) := by omega
  have z5 : ¬ (c = i) := by omega
  have z6 : ¬ (c = i + 1) := by omega
  have z7 : (i : Int) ≤ (n : Int) + 1 := by omega
  have z8 : (i : Int) + 1 ≤ (n : Int) + 1 := by omega
  have z9 : (n : Int) ≤ 1000000 := by omega
  have z10 : (c : Int) ≤ 9223372036854775807 := by omega
  clear hsh hat HC hG1 hG2 hT1 hV1 hss hins h1A h1C hxl hlA hlC hcs HG hk h1
  go_enter Try.func62, Try.ntmps62
  go_wp2_with (simp only [hov])
  have w1 : IntKind.i64.wrap ((i : Int) + 1) = (i : Int) + 1 := IntWalk.i64_in _ (by omega)
  have w2 : (0 : Int) ≤ (i : Int) + 1 := by omega
  have w3 : ((i : Int) + 1).toNat = i + 1 := by omega
  go_region_law
    ((refine step_copy_runI (by rfl) (.tmp 73) (.tmp 76) 44 44 (by rfl) (.slice (some ⟨g, (i + 1) * 3, none⟩) (n - i) (c - (i + 1))) (.slice (some ⟨g, i * 3, none⟩) (n + 1 - i) (c - i)) (by simp [Act.eval, Act.put]) (by simp [Act.eval, Act.put]) (hcp1 _ _ _) ?_))
  all_goals
    clear w1 w2 w3
    go_wp2_with (at_builtin; refine wpList_copy_runI _ rfl _ _ 44 44 rfl _ _ rfl rfl (hcp2 _ _) ?_)
    go_ret
    exact ⟨rfl, HO2.out, HT2.out⟩
set_option maxRecDepth 100000 in
set_option maxHeartbeats 4000000 in
/-- slices.Insert, of one thing, within, where there is no room. -/
theorem ins_grow (hk : ∀ x, (enc x).length = 3) (h1 : ∀ x, ∀ u ∈ enc x, u.oneCell' = true) (B g c : Nat) (S : List α) (i : Nat) (x : α) (bv : Nat) (w : World) (h : w.ownsRow B 37 3 (.slice (some ⟨g, 0, none⟩) S.length c) S.length (S.flatMap enc)) (hL : S.length ≤ 1000000) (hv : Lies w bv 37 (enc x).toArray) (hBw : B ≤ w.heap.size) (hi : i < S.length) (hroom : ¬ S.length < c) :
    Calls Try.prog 62 #[.slice (some ⟨g, 0, none⟩) S.length c, .int .i64 (i : Int), .slice (some ⟨bv, 0, none⟩) 1 1] w fun e w' =>
      ∃ d, e = .returned (.slice (some ⟨w.heap.size, 0, none⟩) (S.length + 1) d) ∧ w'.ownsRow B 37 3 (.slice (some ⟨w.heap.size, 0, none⟩) (S.length + 1) d) (S.length + 1) ((S.take i ++ x :: S.drop i).flatMap enc) ∧ Turn (fun k => k = g) w w' := by
  obtain ⟨cur, HG, hB, hnc, hc63, hcs, htake, _⟩ := lies_own h
  obtain ⟨hsp, hlA, hlC⟩ := flat_split hk S i (Nat.le_of_lt hi)
  have hxl := hk x
  have hcur : cur.toList = (S.take i).flatMap enc ++ (S.drop i).flatMap enc ++ cur.toList.drop (S.length * 3) := by rw [← hsp, ← htake, List.take_append_drop]
  have h1A : ∀ u ∈ (S.take i).flatMap enc, u.oneCell' = true := fun u hu => by
    obtain ⟨y, _, hu⟩ := List.mem_flatMap.1 hu
    exact h1 y u hu
  have h1C : ∀ u ∈ (S.drop i).flatMap enc, u.oneCell' = true := fun u hu => by
    obtain ⟨y, _, hu⟩ := List.mem_flatMap.1 hu
    exact h1 y u hu
  have hins := flat_ins (enc := enc) S i x
  generalize (S.take i).flatMap enc = A at *
  generalize (S.drop i).flatMap enc = C at *
  have hat : ∀ j, cur[j]? = cur.toList[j]? := fun j => by rw [Array.getElem?_toList]
  have HA : ∀ j u, A[j]? = some u → w.cell? ⟨g, j, none⟩ = some u := fun j u hj => by
    rw [HG.cell, hat, hcur, List.append_assoc, List.getElem?_append_left (List.getElem?_eq_some_iff.1 hj).1]
    exact hj
  have HC : ∀ j u, C[j]? = some u → w.cell? ⟨g, i * 3 + j, none⟩ = some u := fun j u hj => by
    rw [HG.cell, hat, hcur, List.append_assoc, List.getElem?_append_right (by omega), hlA, List.getElem?_append_left (by have := (List.getElem?_eq_some_iff.1 hj).1; omega), show i * 3 + j - i * 3 = j by omega]
    exact hj
  obtain ⟨i0, hi0, hz0, hzs, hzb⟩ := info_parts info
  have hold : (Builtin.firstCells i0.size i (.slice (some ⟨g, 0, none⟩) i c)).run Try.prog w.drew = .ok A.toArray w.drew := by
    rw [hzs]
    exact run_firstCells_some w.drew 3 i ⟨g, 0, none⟩ i c A hlA (fun j u hj => by rw [add_none, Nat.zero_add]; exact HA j u hj)
  obtain ⟨Z, hZ, hrz⟩ : ∃ Z : List Value, Z.length = (grownCap w (S.length + 1) c 37 - i) * 3 ∧ ∀ ty, (Builtin.append_ #[44, 3] ty #[.slice (some ⟨g, 0, none⟩) i c, .int .i64 ((S.length : Int) + 1 - (i : Int))]).run Try.prog w =
      .ok (.slice (some ⟨w.heap.size, 0, none⟩) (S.length + 1) (grownCap w (S.length + 1) c 37)) (w.drew.alloc (.cells (A ++ Z).toArray 37)) := by
    refine ⟨(Builtin.zeroCells (Value.agg #[.int .i64 0, .int .i64 0, .int .i64 0]).cells (S.length + 1 - i)).toList ++ (Builtin.zeroCells (Value.agg #[.int .i64 0, .int .i64 0, .int .i64 0]).cells (grownCap w (S.length + 1) c 37 - (S.length + 1))).toList, ?_, fun ty => ?_⟩
    · have := grownCap_ge w (S.length + 1) c 37
      rw [List.length_append, zero_len, zero_len]
      show (S.length + 1 - i) * 3 + _ * 3 = _ * 3
      omega
    · have hh := Lib.run_append_grow_zeros w 44 3 ty 37 i0 _ .i64 .i64 Try.underlying44 Try.underlying3 hi0 hz0 (some ⟨g, 0, none⟩) i c A hold (S.length + 1 - i) (by omega) (by omega) (by omega) (by omega) (by rw [hzb]; omega) (by rw [hzb, show i + (S.length + 1 - i) = S.length + 1 by omega]; exact growslice_fits (by omega) (by omega))
      rw [show i + (S.length + 1 - i) = S.length + 1 by omega] at hh
      rw [show (S.length : Int) + 1 - (i : Int) = ((S.length + 1 - i : Nat) : Int) by omega, hh]
      congr 4
      apply Array.toList_inj.1
      simp
  obtain ⟨G, hG, hGn, hG63⟩ : ∃ G, grownCap w (S.length + 1) c 37 = G ∧ S.length + 1 ≤ G ∧ G ≤ 9223372036854775807 := ⟨_, rfl, grownCap_ge _ _ _ _, by
    have := grownCap_le_maxLen w (S.length + 1) c 37 (by unfold maxLen; omega)
    unfold maxLen at this
    exact this⟩
  rw [hG] at hZ hrz
  have hgw : g < w.heap.size := HG.lt
  have hvw : bv < w.heap.size := hv.lt
  obtain ⟨W1, hW1⟩ : ∃ W1, w.drew.alloc (.cells (A ++ Z).toArray 37) = W1 := ⟨_, rfl⟩
  have hB1 : Below w.heap.size w W1 := by rw [← hW1]; exact (Below.refl _ w).drew.alloc (Nat.le_refl _) _
  have hN1 : Lies W1 w.heap.size 37 (A ++ Z).toArray := by rw [← hW1]; exact Lies.new w.drew _ _
  rw [hW1] at hrz
  have hAZ : (A ++ Z).toArray.size = G * 3 := by simp; omega
  have hV1 := hv.below hB1 hvw
  have hcpA : ∀ ty dc, (Builtin.copy_ #[44, 44] ty #[.slice (some ⟨w.heap.size, i * 3, none⟩) (S.length + 1 - i) dc, .slice (some ⟨bv, 0, none⟩) 1 1]).run Try.prog W1 = .ok (goInt (Nat.min 1 (S.length + 1 - i))) (W1.setRow w.heap.size (spl (A ++ Z).toArray (i * 3) (enc x))) := fun ty dc =>
    run_copy_lies W1 44 44 ty 37 3 w.heap.size (i * 3) _ dc ⟨bv, 0, none⟩ 1 1 _ _ (enc x) Try.underlying44 size hN1
      (by rw [hxl]; simp only [Nat.min_def]; split <;> omega) (fun j u hj => by rw [add_none, Nat.zero_add, hV1.cell]; simpa using hj) (by rw [hxl, hAZ]; omega) (h1 x)
  obtain ⟨W2, hW2⟩ : ∃ W2, W1.setRow w.heap.size (spl (A ++ Z).toArray (i * 3) (enc x)) = W2 := ⟨_, rfl⟩
  have hB2 : Below w.heap.size w W2 := by rw [← hW2]; exact below_row hB1 (Nat.le_refl _) _
  have hN2 : Lies W2 w.heap.size 37 (spl (A ++ Z).toArray (i * 3) (enc x)) := by rw [← hW2]; exact lies_setRow hN1 _
  have hss : (spl (A ++ Z).toArray (i * 3) (enc x)).size = G * 3 := by rw [spl_size _ _ _ (by rw [hxl, hAZ]; omega), hAZ]
  rw [hW2] at hcpA
  have hcpB : ∀ (W : World), W.heap = W2.heap → ∀ ty dc sc, (Builtin.copy_ #[44, 44] ty #[.slice (some ⟨w.heap.size, (i + 1) * 3, none⟩) (S.length - i) dc, .slice (some ⟨g, i * 3, none⟩) (S.length - i) sc]).run Try.prog W = .ok (goInt (Nat.min (S.length - i) (S.length - i))) (W.setRow w.heap.size (spl (spl (A ++ Z).toArray (i * 3) (enc x)) ((i + 1) * 3) C)) := fun W hW ty dc sc => by
    have hNW : Lies W w.heap.size 37 (spl (A ++ Z).toArray (i * 3) (enc x)) := hN2.like (by rw [hW])
    have hGW : Lies W g 37 cur := (HG.below hB2 hgw).like (by rw [hW])
    exact run_copy_lies W 44 44 ty 37 3 w.heap.size ((i + 1) * 3) _ dc ⟨g, i * 3, none⟩ _ sc _ _ C Try.underlying44 size hNW
      (by rw [hlC]; congr 1; simp only [Nat.min_def]; split <;> omega) (fun j u hj => by rw [add_none, hGW.cell, ← HG.cell]; exact HC j u hj) (by rw [hlC, hss]; omega) h1C
  have HX := Lib.hid (show (spl (spl (A ++ Z).toArray (i * 3) (enc x)) ((i + 1) * 3) C).toList.take ((S.length + 1) * 3) = (S.take i ++ x :: S.drop i).flatMap enc by
    rw [hins, ← spl_grow A C Z (enc x), hlA, hxl, hlC]
    have e1 : i * 3 + 3 = (i + 1) * 3 := by omega
    have e2 : i * 3 + 3 + (S.length - i) * 3 = (S.length + 1) * 3 := by omega
    rw [e2, e1])
  have hs3 : (spl (spl (A ++ Z).toArray (i * 3) (enc x)) ((i + 1) * 3) C).size = G * 3 := by rw [spl_size _ _ _ (by rw [hlC, hss]; omega), hss]
  have HB2 := Lib.hid hB2
  have HN2 := Lib.hid hN2
  have HS3 := Lib.hid hs3
  generalize (S.take i ++ x :: S.drop i).flatMap enc = Y at *
  generalize (spl (spl (A ++ Z).toArray (i * 3) (enc x)) ((i + 1) * 3) C) = cur3 at *
  clear hs3 hN2 hB2 hss hV1 hAZ hN1 hB1 hW1 hW2 hins hZ hold hi0 hz0 hzs hzb HA HC hat hcur h1A h1C hxl hlA hlC hsp htake hcs HG h hk h1 hv hG
  generalize S.length = n at *
  have z1 : ((i : Int) == (n : Int)) = false := by simp; omega
  have z2 : ¬ ((i : Int) = (n : Int)) := by omega
  have z3 : (c : Int) < (n : Int) + 1 := by omega
  have z4 : (i : Int) ≤ (n : Int) := by omega
  have z5 : ¬ (c = i) := by omega
  have z6 : ¬ (G = i + 1) := by omega
  have z6' : ¬ (G = i) := by omega
  have z7 : (i : Int) ≤ (n : Int) + 1 := by omega
  have z8 : (i : Int) + 1 ≤ (n : Int) + 1 := by omega
  have z9 : (n : Int) ≤ 1000000 := by omega
  have z10 : (c : Int) ≤ 9223372036854775807 := by omega
  have z11 : (G : Int) ≤ 9223372036854775807 := by omega
  go_enter Try.func62, Try.ntmps62
  go_wp2_with (first
    | (at_builtin; refine Lib.wpList_append_run _ rfl _ _ _ _ rfl _ _ rfl rfl _ _ (hrz _) ?_)
    | (at_builtin; refine wpList_copy_runI _ rfl _ _ 44 44 rfl _ _ rfl rfl (hcpA _ _) ?_))
  have w1 : IntKind.i64.wrap ((i : Int) + 1) = (i : Int) + 1 := IntWalk.i64_in _ (by omega)
  have w2 : (0 : Int) ≤ (i : Int) + 1 := by omega
  have w3 : ((i : Int) + 1).toNat = i + 1 := by omega
  go_region_law
    ((refine step_copy_runI (by rfl) (.tmp 50) (.tmp 53) 44 44 (by rfl) (.slice (some ⟨w.heap.size, (i + 1) * 3, none⟩) (n - i) (G - (i + 1))) (.slice (some ⟨g, i * 3, none⟩) (n - i) (c - i)) (by simp [Act.eval, Act.put]) (by simp [Act.eval, Act.put]) (hcpB W2.drew rfl _ _ _) ?_))
  all_goals
    clear w1 w2 w3
    go_wp2
    go_ret
    have HL3 : Lies (W2.drew.setRow w.heap.size cur3) w.heap.size 37 cur3 := lies_setRow (cur := (spl (A ++ Z).toArray (i * 3) (enc x))) HN2.out cur3
    exact ⟨G, rfl, own_lies HL3 hBw hGn hG63 HS3.out HX.out, Turn.of_below (below_row HB2.out.drew (Nat.le_refl _) _)⟩
/-- slices.Insert, of one thing, at a place. -/
theorem ins_any (hk : ∀ x, (enc x).length = 3) (h1 : ∀ x, ∀ u ∈ enc x, u.oneCell' = true) (B : Nat) (v : Value) (S : List α) (i : Nat) (x : α) (bv : Nat) (w : World) (h : w.ownsRow B 37 3 v S.length (S.flatMap enc)) (hL : S.length ≤ 1000000) (hv : Lies w bv 37 (enc x).toArray) (hne : v.ownBlock ≠ some bv) (hBw : B ≤ w.heap.size) (hi : i ≤ S.length) :
    Calls Try.prog 62 #[v, .int .i64 (i : Int), .slice (some ⟨bv, 0, none⟩) 1 1] w fun e w' =>
      ∃ v', e = .returned v' ∧ w'.ownsRow B 37 3 v' (S.length + 1) ((S.take i ++ x :: S.drop i).flatMap enc) ∧ Turn (fun k => v.ownBlock = some k) w w' ∧ (v'.ownBlock = v.ownBlock ∨ v'.ownBlock = some w.heap.size) := by
  by_cases hlt : i < S.length
  · obtain ⟨g, c, rfl, _, _, hnc⟩ := own_some h (by omega)
    have hS : ∀ k, k = g → (Value.slice (some ⟨g, 0, none⟩) S.length c).ownBlock = some k := fun k hk' => by rw [hk']; rfl
    by_cases hr : S.length < c
    · refine (ins_room hk h1 B g c S i x bv w h hL hv (fun e => hne (by rw [e]; rfl)) hlt hr).mono ?_
      rintro e w' ⟨rfl, h2, h3⟩
      exact ⟨_, rfl, h2, h3.mono (fun k _ hk' => hS k hk'), .inl rfl⟩
    · refine (ins_grow hk h1 B g c S i x bv w h hL hv hBw hlt hr).mono ?_
      rintro e w' ⟨d, rfl, h2, h3⟩
      exact ⟨_, rfl, h2, h3.mono (fun k _ hk' => hS k hk'), .inr rfl⟩
  · obtain rfl : i = S.length := by omega
    rw [List.take_length, List.drop_length]
    exact ins_end hk h1 B v S x bv w h hBw hL hv
set_option maxRecDepth 100000 in
set_option maxHeartbeats 4000000 in
/-- slices.Clone. -/
theorem clone_any (hk : ∀ x, (enc x).length = 3) (h1 : ∀ x, ∀ u ∈ enc x, u.oneCell' = true) (q : Option Addr) (n c : Nat) (S : List α) (w : World) (h : Rw 3 enc w q n S) (hL : S.length ≤ 1000000) :
    Calls Try.prog 53 #[.slice q n c] w fun e w' => ∃ v, e = .returned v ∧ w'.ownsRow w.heap.size 37 3 v S.length (S.flatMap enc) ∧ Below w.heap.size w w' := by
  have qe : ∀ (w : World) (a : Option Addr) (n c n' c' : Nat), (binOp .eql 44 (.slice a n c) (.slice none n' c')).run Try.prog w = .ok (.bool a.isNone) w := fun w a n c n' c' => Lib.run_eql_slice_nil w _ _ a n c n' c' Try.underlying44
  cases q with
  | none =>
    have hS : S = [] := by
      rcases Nat.eq_zero_or_pos n with h0 | h0
      · exact List.eq_nil_of_length_eq_zero (h.1.trans h0)
      · obtain ⟨_, _, e, _⟩ := h.2 h0
        cases e
    subst hS
    go_enter Try.func53, Try.ntmps53
    go_wp2
    go_ret
    exact ⟨_, rfl, World.ownsRow_nil _ _ _ _, Below.refl _ _⟩
  | some a =>
    obtain ⟨i0, hi, hz0, hz1, hz2⟩ := info_parts info
    have hn := h.1
    have hl : (S.flatMap enc).length = n * 3 := by rw [flat_len hk, hn]
    have hc : ∀ j u, (S.flatMap enc)[j]? = some u → w.cell? (a.add j) = some u := fun j u hj => by
      have hlt := (List.getElem?_eq_some_iff.1 hj).1
      obtain ⟨b, o, e, _⟩ := h.2 (by omega)
      cases e
      rw [add_none]
      exact rw_cells hk h j u hj
    have HC := Lib.hid hc
    have H1 := Lib.hid (show ∀ u ∈ S.flatMap enc, u.oneCell' = true from fun u hu => by
      obtain ⟨y, _, hu⟩ := List.mem_flatMap.1 hu
      exact h1 y u hu)
    subst hn
    clear hc h h1
    go_enter Try.func53, Try.ntmps53
    go_wp2_with (at_builtin; refine wpList_append_own _ rfl _ _ 44 rfl w.heap.size 37 i0 _ 3 24 Try.underlying44 hi hz0 hz1 hz2 rfl (by decide) _ _ _ rfl (World.ownsRow_made w #[] 0 (Nat.le_refl _) (Nat.zero_le _) (by simp)) a S.length c (S.flatMap enc) rfl ?qc1 ?qc2 ?qc3 ?qc4 ?qc5 ?qc6 ?_)
    case qc1 => exact hl
    case qc2 =>
      intro j u hj
      exact Lib.cell?_alloc_some _ (HC.out j u hj)
    case qc3 => exact H1.out
    case qc4 => unfold maxLen; omega
    case qc5 => omega
    case qc6 => simp
    intro v' w1 hown hgrow hnil
    go_wp2
    go_ret
    refine ⟨v', rfl, by simpa using hown, ?_⟩
    exact ((Below.refl _ w).alloc (Nat.le_refl _) _).grown hgrow (by simp) (by intro k hk; simp [Value.ownBlock] at hk; omega)
end
end Rd
end Go.Proofs.Ytehiclmkdpcplaa

namespace Go.Proofs.Ytehiclmkdpcplaa
open Go.RowKit

namespace Se
def belB (n e : Int) : Bool := decide (0 ≤ n ∧ n < e)
theorem bel_any (n e : Int) (w : World) : Calls Try.prog 56 #[.int .i64 n, .int .i64 e] w fun e' w' => e' = .returned (.bool (belB n e)) ∧ w = w' := by
  have E : belB n e = (decide (0 ≤ n) && decide (n < e)) := by
    rw [Bool.eq_iff_iff]
    simp [belB]
  rw [E]
  clear E
  by_cases h1 : 0 ≤ n
  · rw [decide_eq_true h1]
    go_enter Try.func56, Try.ntmps56
    go_wp2
    all_goals
      go_ret
      exact ⟨rfl, rfl⟩
  · rw [decide_eq_false h1]
    have h1' : n < 0 := by omega
    go_enter Try.func56, Try.ntmps56
    go_wp2
    all_goals
      go_ret
      exact ⟨rfl, rfl⟩
theorem ten_any (t : Int) (w : World) : Calls Try.prog 55 #[.int .i64 t] w fun e w' => e = .returned (.bool (tenB t)) ∧ w = w' := by
  have E : tenB t = (decide (-1099511627776 ≤ t) && decide (t ≤ 1099511627776)) := by
    rw [Bool.eq_iff_iff]
    simp [tenB]
  rw [E]
  clear E
  by_cases h1 : -1099511627776 ≤ t
  · rw [decide_eq_true h1]
    go_enter Try.func55, Try.ntmps55
    go_wp2
    all_goals
      go_ret
      exact ⟨rfl, rfl⟩
  · rw [decide_eq_false h1]
    have h1' : t < -1099511627776 := by omega
    go_enter Try.func55, Try.ntmps55
    go_wp2
    all_goals
      go_ret
      exact ⟨rfl, rfl⟩
set_option maxRecDepth 100000 in
set_option maxHeartbeats 1000000 in
theorem maybe_any (r : Rd) (w : World) : Calls Try.prog 57 #[rval r] w fun e w' => e = .returned (.bool (rightB r)) ∧ Below w.heap.size w w' := by
  have T := Lib.hid (fun W => ten_any r.ten W)
  have M := Lib.hid (fun W => bel_any r.min 1048576 W)
  have S := Lib.hid (fun W => bel_any r.seq 65536 W)
  have E : rightB r = (belB r.min 1048576 && belB r.seq 65536 && tenB r.ten) := by
    rw [Bool.eq_iff_iff]
    simp [rightB, tenB, belB]
    omega
  rw [E]
  clear E
  generalize tenB r.ten = t at *
  generalize belB r.min 1048576 = t1 at *
  generalize belB r.seq 65536 = t2 at *
  obtain ⟨m, s, u⟩ := r
  unfold rval
  simp only at T M S ⊢
  cases t1
  all_goals cases t2
  all_goals
    go_enter Try.func57, Try.ntmps57
    go_wp2_with (first
      | (go_at_call 55; ((with_reducible refine (T.out _).mono ?_); rintro e w1 ⟨rfl, rfl⟩))
      | (go_at_call 56; ((with_reducible refine (M.out _).mono ?_); rintro e w1 ⟨rfl, rfl⟩))
      | (go_at_call 56; ((with_reducible refine (S.out _).mono ?_); rintro e w1 ⟨rfl, rfl⟩)))
    go_ret
    exact ⟨rfl, alloc_below w _⟩
/-- Which of two numbers is greater. -/
def cmpI (x y : Int) : Int := if x < y then -1 else if y < x then 1 else 0
theorem nan_any (x : Int) (w : World) : Calls Try.prog 69 #[.int .i64 x] w fun e w' => e = .returned (.bool false) ∧ w = w' := by
  have h : (x != x) = false := by simp
  go_enter Try.func69, Try.ntmps69
  go_wp2
  go_ret
  exact ⟨rfl, rfl⟩
theorem cmp_any (x y : Int) (w : World) : Calls Try.prog 61 #[.int .i64 x, .int .i64 y] w fun e w' => e = .returned (.int .i64 (cmpI x y)) ∧ w = w' := by
  unfold cmpI
  have N := Lib.hid (fun z W => nan_any z W)
  rcases Int.lt_trichotomy x y with h | h | h
  · rw [if_pos h]
    go_enter Try.func61, Try.ntmps61
    go_wp2_with (go_at_call 69; ((with_reducible refine (N.out _ _).mono ?_); rintro e w1 ⟨rfl, rfl⟩))
    go_ret
    exact ⟨rfl, rfl⟩
  · subst h
    rw [if_neg (by omega), if_neg (by omega)]
    have h : ¬ x < x := by omega
    go_enter Try.func61, Try.ntmps61
    go_wp2_with (go_at_call 69; ((with_reducible refine (N.out _ _).mono ?_); rintro e w1 ⟨rfl, rfl⟩))
    go_ret
    exact ⟨rfl, rfl⟩
  · rw [if_neg (by omega), if_pos h]
    have h' : ¬ x < y := by omega
    go_enter Try.func61, Try.ntmps61
    go_wp2_with (go_at_call 69; ((with_reducible refine (N.out _ _).mono ?_); rintro e w1 ⟨rfl, rfl⟩))
    go_ret
    exact ⟨rfl, rfl⟩
def orI (x y : Int) : Int := if x = 0 then y else x
/-- cmp.Or of two. -/
theorem or_any (x y : Int) (b : Nat) (w : World) (hx : w.cell? ⟨b, 0, none⟩ = some (.int .i64 x)) (hy : w.cell? ⟨b, 1, none⟩ = some (.int .i64 y)) :
    Calls Try.prog 60 #[.slice (some ⟨b, 0, none⟩) 2 2] w fun e w' => e = .returned (.int .i64 (orI x y)) ∧ w = w' := by
  go_enter Try.func60, Try.ntmps60
  go_wp2
  go_loop [8] (fun i => ∃ k : Nat, k ≤ 2 ∧ i = .int .i64 k ∧ Hid (0 < k → x = 0) ∧ Hid (1 < k → y = 0)) (fun i => 2 - (RowKit.intOf i).toNat)
  case atStart => exact ⟨0, by omega, rfl, Lib.hid (by omega), Lib.hid (by omega)⟩
  case round =>
    obtain ⟨k, hk, rfl, K1, K2⟩ := hrel
    match k, hk with
    | 0, _ =>
      by_cases h : x = 0
      · have t0 : (x != 0) = false := by simp [h]
        have H := Lib.hid h
        clear h
        go_wp2
        go_round
        case rel => exact ⟨1, by omega, by go_num, Lib.hid (fun _ => H.out), Lib.hid (by omega)⟩
        case measure => simp [RowKit.intOf]
      · have t0 : (x != 0) = true := by simp [h]
        have E := Lib.hid (show orI x y = x from if_neg h)
        clear h
        go_wp2
        go_ret
        exact ⟨by rw [E.out]; rfl, rfl⟩
    | 1, _ =>
      have hx0 := K1.out (by omega)
      by_cases h : y = 0
      · have t0 : (y != 0) = false := by simp [h]
        have H := Lib.hid h
        have H2 := Lib.hid hx0
        clear h hx0
        go_wp2
        go_round
        case rel => exact ⟨2, by omega, by go_num, Lib.hid (fun _ => H2.out), Lib.hid (fun _ => H.out)⟩
        case measure => simp [RowKit.intOf]
      · have t0 : (y != 0) = true := by simp [h]
        have E := Lib.hid (show orI x y = y from if_pos hx0)
        clear h hx0
        go_wp2
        go_ret
        exact ⟨by rw [E.out]; rfl, rfl⟩
    | 2, _ =>
      have E := Lib.hid (show orI x y = 0 by unfold orI; rw [if_pos (K1.out (by omega)), K2.out (by omega)])
      go_wp2
      go_ret
      exact ⟨by rw [E.out]; rfl, rfl⟩
end Se
end Go.Proofs.Ytehiclmkdpcplaa

namespace Go.Proofs.Ytehiclmkdpcplaa
open Go.RowKit

namespace Se
/-- On which side of a minute a reading is. -/
def upS (m : Int) (x : Rd) : Int := if x.min ≤ m then -1 else 1
theorem up_any (m : Int) (x : Rd) (b : Nat) (w : World) (hm : w.cell? ⟨b, 0, none⟩ = some (.int .i64 m)) (hb : b < w.heap.size) :
    Calls Try.prog 68 #[rval x, .pointer (some ⟨b, 0, none⟩)] w fun e w' => e = .returned (.int .i64 (upS m x)) ∧ Below w.heap.size w w' := by
  have B0 := Lib.hid (alloc_below w (.cells #[.int .i64 x.min, .int .i64 x.seq, .int .i64 x.ten] 37))
  unfold rval
  by_cases h : x.min ≤ m
  · have E := Lib.hid (show upS m x = -1 from if_pos h)
    generalize upS m x = u at *
    generalize x.min = xm at *
    generalize x.seq = xs at *
    generalize x.ten = xt at *
    go_enter Try.func68, Try.ntmps68
    go_wp2
    go_ret
    exact ⟨by rw [E.out]; rfl, B0.out⟩
  · have E := Lib.hid (show upS m x = 1 from if_neg h)
    generalize upS m x = u at *
    generalize x.min = xm at *
    generalize x.seq = xs at *
    generalize x.ten = xt at *
    go_enter Try.func68, Try.ntmps68
    go_wp2
    go_ret
    exact ⟨by rw [E.out]; rfl, B0.out⟩
/-- On which side of one reading another one is. -/
def putS (r x : Rd) : Int := orI (cmpI x.min r.min) (cmpI x.seq r.seq)
set_option maxRecDepth 100000 in
set_option maxHeartbeats 2000000 in
theorem side_any (r x : Rd) (b : Nat) (w : World) (h0 : w.cell? ⟨b, 0, none⟩ = some (.int .i64 r.min)) (h1 : w.cell? ⟨b, 1, none⟩ = some (.int .i64 r.seq)) (hb : b < w.heap.size) :
    Calls Try.prog 59 #[rval x, .pointer (some ⟨b, 0, none⟩)] w fun e w' => e = .returned (.int .i64 (putS r x)) ∧ Below w.heap.size w w' := by
  have C0 := Lib.hid (fun W => cmp_any x.min r.min W)
  have C1 := Lib.hid (fun W => cmp_any x.seq r.seq W)
  unfold putS
  have O := Lib.hid (fun W c (h0 : W.cell? ⟨c, 0, none⟩ = some (.int .i64 (cmpI x.min r.min))) (h1 : W.cell? ⟨c, 1, none⟩ = some (.int .i64 (cmpI x.seq r.seq))) => or_any _ _ c W h0 h1)
  unfold rval
  generalize cmpI x.min r.min = c0 at *
  generalize cmpI x.seq r.seq = c1 at *
  generalize r.min = rm at *
  generalize r.seq = rs at *
  generalize x.min = xm at *
  generalize x.seq = xs at *
  generalize x.ten = xt at *
  have B0 := Lib.hid (alloc_below w (.cells #[.int .i64 xm, .int .i64 xs, .int .i64 xt] 37))
  have X0 := Lies.new w 37 #[.int .i64 xm, .int .i64 xs, .int .i64 xt]
  have k0 := (B0.out.cell (p := ⟨b, 0, none⟩) hb).trans h0
  have k1 := (B0.out.cell (p := ⟨b, 1, none⟩) hb).trans h1
  have x0 : (w.alloc (.cells #[.int .i64 xm, .int .i64 xs, .int .i64 xt] 37)).cell? ⟨w.heap.size, 0, none⟩ = some (.int .i64 xm) := X0.cell 0
  have x1 : (w.alloc (.cells #[.int .i64 xm, .int .i64 xs, .int .i64 xt] 37)).cell? ⟨w.heap.size, 1, none⟩ = some (.int .i64 xs) := X0.cell 1
  obtain ⟨w1, hw1⟩ : ∃ w1, w.alloc (.cells #[.int .i64 xm, .int .i64 xs, .int .i64 xt] 37) = w1 := ⟨_, rfl⟩
  have hs1 : w1.heap.size = w.heap.size + 1 := by rw [← hw1]; simp
  have HS1 := Lib.hid hs1
  rw [hw1] at k0 k1 x0 x1 B0
  clear hs1 h0 h1 X0
  go_enter Try.func59, Try.ntmps59
  go_wp2_with fail
  clear hw1
  have e0 : Hid (Calls Try.prog 61 #[.int .i64 xm, .int .i64 rm] w1.drew (fun e w'' => e = .returned (.int .i64 c0) ∧ w'' = w1.drew)) := Lib.hid ((C0.out _).mono (fun _ _ h => ⟨h.1, h.2.symm⟩))
  have e1 : Hid (Calls Try.prog 61 #[.int .i64 xs, .int .i64 rs] w1.drew (fun e w'' => e = .returned (.int .i64 c1) ∧ w'' = w1.drew)) := Lib.hid ((C1.out _).mono (fun _ _ h => ⟨h.1, h.2.symm⟩))
  go_still_tail 10, (by kernel_rfl)
  repeat still_step
  still_call e0.out
  repeat still_step
  still_call e1.out
  repeat still_step
  refine wpStill_nil ?_
  clear e0 e1
  have X2 := Lies.new w1 3 #[.int .i64 c0, .int .i64 c1]
  have y0 := X2.cell 0
  have y1 := X2.cell 1
  have Y0 := Lib.hid y0
  have Y1 := Lib.hid y1
  clear y0 y1 X2 x0 x1 k0 k1
  go_wp2_with fail
  refine (O.out (w1.alloc (.cells #[.int .i64 c0, .int .i64 c1] 3)).drew _ Y0.out Y1.out).mono ?_
  rintro e w2 ⟨rfl, rfl⟩
  go_wp2
  go_ret
  exact ⟨rfl, ((B0.out.alloc (by have := HS1.out; omega) _).drew)⟩
end Se
end Go.Proofs.Ytehiclmkdpcplaa
