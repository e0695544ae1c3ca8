/- Walks over package order: what is done to an order, by closures. No condition but those written. -/
import Derived.Test.YtpkniomjohjbiaaOrPa
import Derived.Test.YtpkniomjohjbiaaRng
import Derived.StillTailTactics
namespace Go.Proofs.Ytpkniomjohjbiaa
open Go.RowKit

namespace Or
/-- What lets an order that is in one state be in another one: the states, each in a block. -/
def tn (a b : Nat) : Value := .func (.func 26) #[] #[.pointer (some ⟨a, 0, none⟩), .pointer (some ⟨b, 0, none⟩)]
/-- What copies an order: where to, in a block. -/
def cpy (a : Nat) : Value := .func (.func 27) #[] #[.pointer (some ⟨a, 0, none⟩)]
def Nt (W : World) (b : Nat) (x : Int) : Prop := Lies W b 3 #[.int .i64 x]
theorem pturn_any (x y : Int) (w : World) : Calls Try.prog 22 #[.int .i64 x, .int .i64 y] w fun e w' => e = .returned (tn w.heap.size (w.heap.size + 1)) ∧ Nt w' w.heap.size x ∧ Nt w' (w.heap.size + 1) y ∧ Below w.heap.size w w' := by
  have X := Lib.hid ((Lies.new w 3 #[.int .i64 x]).alloc (.cells #[.int .i64 y] 3))
  have Y := Lib.hid (Lies.new (w.alloc (.cells #[.int .i64 x] 3)) 3 #[.int .i64 y])
  have B1 := Lib.hid ((alloc_below w (.cells #[.int .i64 x] 3)).alloc (by simp) (.cells #[.int .i64 y] 3))
  have hmf : ∀ (fn : Fn) (first cap : Array Value) (w : World), (Instr.makeFunc fn first cap).run Try.prog w = .ok (.func fn first cap) w := fun _ _ _ _ => rfl
  unfold tn Nt
  go_enter Try.func22, Try.ntmps22
  go_wp2
  go_ret
  exact ⟨by simp, X.out, by simpa using Y.out, B1.out⟩
theorem pcopy_any (a : Nat) (w : World) : Calls Try.prog 25 #[.pointer (some ⟨a, 0, none⟩)] w fun e w' => e = .returned (cpy w.heap.size) ∧ Lies w' w.heap.size 57 #[.pointer (some ⟨a, 0, none⟩)] ∧ Below w.heap.size w w' := by
  have X := Lib.hid (Lies.new w 57 #[.pointer (some ⟨a, 0, none⟩)])
  have B1 := Lib.hid (alloc_below w (.cells #[.pointer (some ⟨a, 0, none⟩)] 57))
  have hmf : ∀ (fn : Fn) (first cap : Array Value) (w : World), (Instr.makeFunc fn first cap).run Try.prog w = .ok (.func fn first cap) w := fun _ _ _ _ => rfl
  unfold cpy
  go_enter Try.func25, Try.ntmps25
  go_wp2
  go_ret
  exact ⟨rfl, X.out, B1.out⟩
set_option maxRecDepth 100000 in
set_option maxHeartbeats 4000000 in
theorem dturn_no (g o a b : Nat) (st x : Int) (w : World) (hc : w.cell? ⟨g, o + 3, none⟩ = some (.int .i64 st)) (hx : Nt w a x) (hne : st ≠ x) :
    Calls Try.prog 26 #[.pointer (some ⟨g, o, none⟩), .pointer (some ⟨a, 0, none⟩), .pointer (some ⟨b, 0, none⟩)] w fun e w' => e = .returned (.int .i64 8) ∧ ∃ m, w' = w.drewN m := by
  have l0 : w.cell? ⟨a, 0, none⟩ = some (.int .i64 x) := hx.cell 0
  have t0 : (st != x) = true := by simp [hne]
  clear hx hne
  go_enter Try.func26, Try.ntmps26
  go_wp2_with fail
  go_quiet (fail)
  go_wp2
  go_ret
  exact ⟨rfl, _, rfl⟩
set_option maxRecDepth 100000 in
set_option maxHeartbeats 4000000 in
theorem dturn_yes (g o a b : Nat) (x y : Int) (w : World) (hc : w.cell? ⟨g, o + 3, none⟩ = some (.int .i64 x)) (hf : w.frozen? ⟨g, o + 3, none⟩ = false) (hx : Nt w a x) (hy : Nt w b y) :
    Calls Try.prog 26 #[.pointer (some ⟨g, o, none⟩), .pointer (some ⟨a, 0, none⟩), .pointer (some ⟨b, 0, none⟩)] w fun e w' => e = .returned (.int .i64 0) ∧ ∃ m, w' = (w.drewN m).setCell ⟨g, o + 3, none⟩ (.int .i64 y) := by
  have l0 : w.cell? ⟨a, 0, none⟩ = some (.int .i64 x) := hx.cell 0
  have l1 : w.cell? ⟨b, 0, none⟩ = some (.int .i64 y) := hy.cell 0
  have t0 : (x != x) = false := by simp
  clear hx hy
  go_enter Try.func26, Try.ntmps26
  go_wp2_with fail
  go_quiet (fail)
  go_wp2
  go_ret
  exact ⟨rfl, _, rfl⟩
/-- An order's cells behind a copy. -/
theorem put4 {W : World} {h : Nat} {a b c d a' b' c' d' : Value} (X : Lies W h 40 #[a, b, c, d]) :
    Lies ((((W.setCell ⟨h, 0, none⟩ a').setCell ⟨h, 1, none⟩ b').setCell ⟨h, 2, none⟩ c').setCell ⟨h, 3, none⟩ d') h 40 #[a', b', c', d'] := by
  simpa using (((X.set_ 0 a').set_ 1 b').set_ 2 c').set_ 3 d'
set_option maxRecDepth 100000 in
set_option maxHeartbeats 4000000 in
theorem dcopy_any (g o a h : Nat) (y : Od) (w : World) (e0 : w.cell? ⟨g, o, none⟩ = some (.int .i64 y.id)) (e1 : w.cell? ⟨g, o + 1, none⟩ = some (.int .i64 y.product)) (e2 : w.cell? ⟨g, o + 2, none⟩ = some (.int .i64 y.units)) (e3 : w.cell? ⟨g, o + 3, none⟩ = some (.int .i64 y.state))
    (ha : Lies w a 57 #[.pointer (some ⟨h, 0, none⟩)]) (hh : Lies w h 40 #[.int .i64 0, .int .i64 0, .int .i64 0, .int .i64 0]) :
    Calls Try.prog 27 #[.pointer (some ⟨g, o, none⟩), .pointer (some ⟨a, 0, none⟩)] w fun e w' => e = .returned (.int .i64 0) ∧ Lies w' h 40 (ocells y).toArray ∧ Turn (fun k => k = h) w w' := by
  obtain ⟨ka, kb, kc, kd⟩ := y
  simp only [ocells] at *
  have l0 : w.cell? ⟨a, 0, none⟩ = some (.pointer (some ⟨h, 0, none⟩)) := ha.cell 0
  have X := Lib.hid hh
  have r0 : w.cell? ⟨h, 0, none⟩ = some (.int .i64 0) := X.out.cell 0
  have r1 : w.cell? ⟨h, 1, none⟩ = some (.int .i64 0) := X.out.cell 1
  have r2 : w.cell? ⟨h, 2, none⟩ = some (.int .i64 0) := X.out.cell 2
  have r3 : w.cell? ⟨h, 3, none⟩ = some (.int .i64 0) := X.out.cell 3
  have f0 : w.frozen? ⟨h, 0, none⟩ = false := X.out.frozen 0
  have f1 : w.frozen? ⟨h, 1, none⟩ = false := X.out.frozen 1
  have f2 : w.frozen? ⟨h, 2, none⟩ = false := X.out.frozen 2
  have f3 : w.frozen? ⟨h, 3, none⟩ = false := X.out.frozen 3
  clear ha hh
  go_enter Try.func27, Try.ntmps27
  go_wp2_with fail
  go_still_tail 5, (by kernel_rfl)
  repeat still_step
  change wpList _ _ _ _ _ w.drew
  go_wp2
  go_ret
  exact ⟨rfl, (put4 X.out).like rfl, by
    refine Turn.drew ?_
    iterate 4 refine Turn.setCell ?_ (by exact .inl rfl) _
    exact Turn.refl _ _⟩
end Or
end Go.Proofs.Ytpkniomjohjbiaa
