/- Walks over package series: the two closures, and the place of a reading. No condition but those written. -/
import Derived.Test.YtfmnbmjfkplieaaSeP1
namespace Go.Proofs.Ytfmnbmjfkplieaa
open Go.RowKit

namespace Se
/-- On which side of a minute a reading is. -/
def upS (m : Int) (x : Rd) : Int := if x.min ≤ m then -1 else 1
theorem up_any (m : Int) (x : Rd) (b : Nat) (w : World) (hm : w.cell? ⟨b, 0, none⟩ = some (.int .i64 m)) (hb : b < w.heap.size) :
    Calls Try.prog 64 #[rval x, .pointer (some ⟨b, 0, none⟩)] w fun e w' => e = .returned (.int .i64 (upS m x)) ∧ Below w.heap.size w w' := by
  have B0 := Lib.hid (alloc_below w (.cells #[.int .i64 x.min, .int .i64 x.seq, .int .i64 x.ten] 37))
  unfold rval
  by_cases h : x.min ≤ m
  · have E := Lib.hid (show upS m x = -1 from if_pos h)
    generalize upS m x = u at *
    generalize x.min = xm at *
    generalize x.seq = xs at *
    generalize x.ten = xt at *
    go_enter Try.func64, Try.ntmps64
    go_wp2
    go_ret
    exact ⟨by rw [E.out]; rfl, B0.out⟩
  · have E := Lib.hid (show upS m x = 1 from if_neg h)
    generalize upS m x = u at *
    generalize x.min = xm at *
    generalize x.seq = xs at *
    generalize x.ten = xt at *
    go_enter Try.func64, Try.ntmps64
    go_wp2
    go_ret
    exact ⟨by rw [E.out]; rfl, B0.out⟩
/-- On which side of one reading another one is. -/
def putS (r x : Rd) : Int := orI (cmpI x.min r.min) (cmpI x.seq r.seq)
set_option maxRecDepth 100000 in
set_option maxHeartbeats 2000000 in
theorem side_any (r x : Rd) (b : Nat) (w : World) (h0 : w.cell? ⟨b, 0, none⟩ = some (.int .i64 r.min)) (h1 : w.cell? ⟨b, 1, none⟩ = some (.int .i64 r.seq)) (hb : b < w.heap.size) :
    Calls Try.prog 40 #[rval x, .pointer (some ⟨b, 0, none⟩)] w fun e w' => e = .returned (.int .i64 (putS r x)) ∧ Below w.heap.size w w' := by
  have C0 := Lib.hid (fun W => cmp_any x.min r.min W)
  have C1 := Lib.hid (fun W => cmp_any x.seq r.seq W)
  unfold putS
  have O := Lib.hid (fun W c (h0 : W.cell? ⟨c, 0, none⟩ = some (.int .i64 (cmpI x.min r.min))) (h1 : W.cell? ⟨c, 1, none⟩ = some (.int .i64 (cmpI x.seq r.seq))) => or_any _ _ c W h0 h1)
  unfold rval
  generalize cmpI x.min r.min = c0 at *
  generalize cmpI x.seq r.seq = c1 at *
  generalize r.min = rm at *
  generalize r.seq = rs at *
  generalize x.min = xm at *
  generalize x.seq = xs at *
  generalize x.ten = xt at *
  have B0 := Lib.hid (alloc_below w (.cells #[.int .i64 xm, .int .i64 xs, .int .i64 xt] 37))
  have X0 := Lies.new w 37 #[.int .i64 xm, .int .i64 xs, .int .i64 xt]
  have k0 := (B0.out.cell (p := ⟨b, 0, none⟩) hb).trans h0
  have k1 := (B0.out.cell (p := ⟨b, 1, none⟩) hb).trans h1
  have x0 : (w.alloc (.cells #[.int .i64 xm, .int .i64 xs, .int .i64 xt] 37)).cell? ⟨w.heap.size, 0, none⟩ = some (.int .i64 xm) := X0.cell 0
  have x1 : (w.alloc (.cells #[.int .i64 xm, .int .i64 xs, .int .i64 xt] 37)).cell? ⟨w.heap.size, 1, none⟩ = some (.int .i64 xs) := X0.cell 1
  obtain ⟨w1, hw1⟩ : ∃ w1, w.alloc (.cells #[.int .i64 xm, .int .i64 xs, .int .i64 xt] 37) = w1 := ⟨_, rfl⟩
  have hs1 : w1.heap.size = w.heap.size + 1 := by rw [← hw1]; simp
  have HS1 := Lib.hid hs1
  rw [hw1] at k0 k1 x0 x1 B0
  clear hs1 h0 h1 X0
  go_enter Try.func40, Try.ntmps40
  go_wp2_with fail
  clear hw1
  have e0 : Hid (Calls Try.prog 42 #[.int .i64 xm, .int .i64 rm] w1.drew (fun e w'' => e = .returned (.int .i64 c0) ∧ w'' = w1.drew)) := Lib.hid ((C0.out _).mono (fun _ _ h => ⟨h.1, h.2.symm⟩))
  have e1 : Hid (Calls Try.prog 42 #[.int .i64 xs, .int .i64 rs] w1.drew (fun e w'' => e = .returned (.int .i64 c1) ∧ w'' = w1.drew)) := Lib.hid ((C1.out _).mono (fun _ _ h => ⟨h.1, h.2.symm⟩))
  go_still_tail 10, (by kernel_rfl)
  repeat still_step
  still_call e0.out
  repeat still_step
  still_call e1.out
  repeat still_step
  refine wpStill_nil ?_
  clear e0 e1
  have X2 := Lies.new w1 3 #[.int .i64 c0, .int .i64 c1]
  have y0 := X2.cell 0
  have y1 := X2.cell 1
  have Y0 := Lib.hid y0
  have Y1 := Lib.hid y1
  clear y0 y1 X2 x0 x1 k0 k1
  go_wp2_with fail
  refine (O.out (w1.alloc (.cells #[.int .i64 c0, .int .i64 c1] 3)).drew _ Y0.out Y1.out).mono ?_
  rintro e w2 ⟨rfl, rfl⟩
  go_wp2
  go_ret
  exact ⟨rfl, ((B0.out.alloc (by have := HS1.out; omega) _).drew)⟩
end Se
end Go.Proofs.Ytfmnbmjfkplieaa
