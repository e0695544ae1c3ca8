/- The live question of layer 9's laws: it returns true. Condition: the contracts of package stays. -/
import Derived.Test.YtdnjmcfnngkhlaaSyP7
namespace Go.Proofs.Ytdnjmcfnngkhlaa
open Go.RowKit

namespace Sy
def l1 : List Sy := [⟨3, 10, -1⟩]
def l3 : List Sy := [⟨3, 10, 20⟩, ⟨5, 20, -1⟩]
def l5 : List Sy := [⟨3, 10, 20⟩, ⟨5, 20, 26⟩, ⟨4, 26, -1⟩]
def l6 : List Sy := [⟨3, 10, 20⟩, ⟨5, 20, 26⟩, ⟨4, 26, 30⟩]
theorem may_d {l : List Sy} {now : Int} (h : rightB l = true) (hm : mayB l now = true) : May l now := (may_B (right_B.1 h)).1 hm
theorem may_n {l : List Sy} {now : Int} (h : rightB l = true) (hm : mayB l now = false) : ¬ May l now := fun hh => by
  rw [(may_B (right_B.1 h)).2 hh] at hm
  cases hm
theorem ok_end {L : List Sy} {w w' : World} {e : Ending} {n : Nat} (hn : L.length = n) (h : OkEnd L w e w') :
    ∃ q c, e = .returned (.tuple #[.slice q n c, .int .i64 0]) ∧ n ≤ c ∧ Rw 3 scells w' q n L ∧ Below w.heap.size w w' := by
  subst hn
  obtain ⟨v, rfl, ho, hb⟩ := h
  obtain ⟨q, c, rfl, hc, hr⟩ := rw_own scells_len ho
  exact ⟨q, c, rfl, hc, hr, hb⟩
theorem upto_end {L : List Sy} {w w' : World} {e : Ending} {n : Nat} (hn : L.length = n) (h : UptoEnd L w e w') :
    ∃ q c, e = .returned (.slice q n c) ∧ Below w.heap.size w w' := by
  subst hn
  obtain ⟨v, rfl, ho, hb⟩ := h
  obtain ⟨q, c, rfl, _, _⟩ := rw_own scells_len ho
  exact ⟨q, c, rfl, hb⟩
theorem rw_new (w : World) (L : List Sy) (cs : Array Value) (hc : cs.toList = L.flatMap scells) : Rw 3 scells (w.alloc (.cells cs 33)) (some ⟨w.heap.size, 0, none⟩) L.length L := by
  refine ⟨rfl, fun _ => ⟨w.heap.size, 0, rfl, fun j x hx i hi => ?_⟩⟩
  rw [Nat.zero_add, (Lies.new w 33 cs).cell, ← flat_at scells_len L j i x hx hi, ← hc, Array.getElem?_toList]
set_option maxRecDepth 100000 in
set_option maxHeartbeats 8000000 in
/-- The live question. -/
theorem alive_any (I : Face) (w : World) : Calls Try.prog 4 #[] w fun e w' => e = .returned (.bool true) ∧ Below w.heap.size w w' := by
  go_enter Try.func4, Try.ntmps4
  go_wp2_with fail
  refine ((show Calls _ _ _ _ (OkEnd l1 _) from I.enter _ _ _ [] 3 10 _ (rw_nil _) (by decide) (Nat.zero_le _) (may_d (by decide) (by decide)) (by decide)).mono (fun e w1 h => ok_end (n := 1) (by decide) h)).mono ?_
  intro e w1 he
  obtain ⟨qa, ca, rfl, hca, hr, hb⟩ := he
  have B := Lib.hid hb
  have Ra := Lib.hid hr
  clear hr
  clear hb
  go_wp2_with fail
  refine ((show Calls _ _ _ _ (OkEnd l1 _) from I.enter _ _ _ l1 3 12 _ Ra.out (by decide) hca (may_d (by decide) (by decide)) (by decide)).mono (fun e w1 h => ok_end (n := 1) (by decide) h)).mono ?_
  intro e w2 he
  obtain ⟨qb, cb, rfl, hcb, hr, hb⟩ := he
  clear Ra
  have B2 := Lib.hid (B.out.trans (hb.mono B.out.size))
  clear B
  have B := Lib.hid B2.out
  clear B2
  have Rb := Lib.hid hr
  clear hr
  clear hb
  go_wp2_with fail
  refine ((show Calls _ _ _ _ (OkEnd l3 _) from I.enter _ _ _ l1 5 20 _ Rb.out (by decide) hcb (may_d (by decide) (by decide)) (by decide)).mono (fun e w1 h => ok_end (n := 2) (by decide) h)).mono ?_
  intro e w3 he
  obtain ⟨qc, cc, rfl, hcc, hr, hb⟩ := he
  clear Rb
  have B2 := Lib.hid (B.out.trans (hb.mono B.out.size))
  clear B
  have B := Lib.hid B2.out
  clear B2
  have Rc := Lib.hid hr
  clear hr
  clear hb
  go_wp2_with fail
  refine ((show Calls _ _ _ _ (OkEnd l1 _) from I.enter _ _ _ l3 3 20 _ Rc.out (by decide) hcc (may_d (by decide) (by decide)) (by decide)).mono (fun e w1 h => ok_end (n := 1) (by decide) h)).mono ?_
  intro e w4 he
  obtain ⟨qd, cd, rfl, hcd, hr, hb⟩ := he
  have Rc2 := Lib.hid (Rc.out.keep scells_len hb)
  clear Rc
  have Rc := Lib.hid Rc2.out
  clear Rc2
  have B2 := Lib.hid (B.out.trans (hb.mono B.out.size))
  clear B
  have B := Lib.hid B2.out
  clear B2
  have Rd := Lib.hid hr
  clear hr
  clear hb
  go_wp2_with fail
  refine ((show Calls _ _ _ _ (OkEnd l5 _) from I.enter _ _ _ l3 4 26 _ Rc.out (by decide) hcc (may_d (by decide) (by decide)) (by decide)).mono (fun e w1 h => ok_end (n := 3) (by decide) h)).mono ?_
  intro e w5 he
  obtain ⟨qx, cx, rfl, hcx, hr, hb⟩ := he
  have Rc2 := Lib.hid (Rc.out.keep scells_len hb)
  clear Rc
  have Rc := Lib.hid Rc2.out
  clear Rc2
  have Rd2 := Lib.hid (Rd.out.keep scells_len hb)
  clear Rd
  have Rd := Lib.hid Rd2.out
  clear Rd2
  have B2 := Lib.hid (B.out.trans (hb.mono B.out.size))
  clear B
  have B := Lib.hid B2.out
  clear B2
  have Rx := Lib.hid hr
  clear hr
  clear hb
  go_wp2_with fail
  refine ((show Calls _ _ _ _ (OkEnd l6 _) from I.leave _ _ _ l5 30 _ Rx.out (by decide) hcx (may_d (by decide) (by decide)) (on_B.1 (by decide))).mono (fun e w1 h => ok_end (n := 3) (by decide) h)).mono ?_
  intro e w6 he
  obtain ⟨qy, cy, rfl, hcy, hr, hb⟩ := he
  have Rc2 := Lib.hid (Rc.out.keep scells_len hb)
  clear Rc
  have Rc := Lib.hid Rc2.out
  clear Rc2
  have Rd2 := Lib.hid (Rd.out.keep scells_len hb)
  clear Rd
  have Rd := Lib.hid Rd2.out
  clear Rd2
  have Rx2 := Lib.hid (Rx.out.keep scells_len hb)
  clear Rx
  have Rx := Lib.hid Rx2.out
  clear Rx2
  have B2 := Lib.hid (B.out.trans (hb.mono B.out.size))
  clear B
  have B := Lib.hid B2.out
  clear B2
  have Ry := Lib.hid hr
  clear hr
  clear hb
  go_wp2_with fail
  refine (I.leave_no _ _ _ l6 31 _ Ry.out (by decide) (fun hh => may_n (by decide) (by decide) hh.1)).mono ?_
  intro e w7 he
  obtain ⟨rfl, hb⟩ := he
  have Rc2 := Lib.hid (Rc.out.keep scells_len hb)
  clear Rc
  have Rc := Lib.hid Rc2.out
  clear Rc2
  have Rd2 := Lib.hid (Rd.out.keep scells_len hb)
  clear Rd
  have Rd := Lib.hid Rd2.out
  clear Rd2
  have Rx2 := Lib.hid (Rx.out.keep scells_len hb)
  clear Rx
  have Rx := Lib.hid Rx2.out
  clear Rx2
  have Ry2 := Lib.hid (Ry.out.keep scells_len hb)
  clear Ry
  have Ry := Lib.hid Ry2.out
  clear Ry2
  have B2 := Lib.hid (B.out.trans (hb.mono B.out.size))
  clear B
  have B := Lib.hid B2.out
  clear B2
  clear hb
  go_wp2_with fail
  refine (I.enter_no _ _ _ l3 4 19 _ Rc.out (by decide) (fun hh => may_n (by decide) (by decide) hh.1)).mono ?_
  intro e w8 he
  obtain ⟨rfl, hb⟩ := he
  clear Rc
  have Rd2 := Lib.hid (Rd.out.keep scells_len hb)
  clear Rd
  have Rd := Lib.hid Rd2.out
  clear Rd2
  have Rx2 := Lib.hid (Rx.out.keep scells_len hb)
  clear Rx
  have Rx := Lib.hid Rx2.out
  clear Rx2
  have Ry2 := Lib.hid (Ry.out.keep scells_len hb)
  clear Ry
  have Ry := Lib.hid Ry2.out
  clear Ry2
  have B2 := Lib.hid (B.out.trans (hb.mono B.out.size))
  clear B
  have B := Lib.hid B2.out
  clear B2
  clear hb
  go_wp2_with fail
  have hal := (alloc_below w8 (.cells #[.int .i64 3, .int .i64 10, .int .i64 (-1)] 33))
  refine (show Calls _ _ _ _ (fun e w' => e = .returned (.bool true) ∧ Below (w8.alloc (.cells #[.int .i64 3, .int .i64 10, .int .i64 (-1)] 33)).heap.size _ w') from I.same _ _ _ _ _ _ l1 l1 _ (Rd.out.keep scells_len hal) (rw_new _ l1 _ rfl) (by decide)).mono ?_
  intro e w9 he
  obtain ⟨rfl, hb0⟩ := he
  have hb := hal.trans (hb0.mono hal.size)
  clear Rd
  have Rx2 := Lib.hid (Rx.out.keep scells_len hb)
  clear Rx
  have Rx := Lib.hid Rx2.out
  clear Rx2
  have Ry2 := Lib.hid (Ry.out.keep scells_len hb)
  clear Ry
  have Ry := Lib.hid Ry2.out
  clear Ry2
  have B2 := Lib.hid (B.out.trans (hb.mono B.out.size))
  clear B
  have B := Lib.hid B2.out
  clear B2
  clear hb hb0 hal
  go_wp2_with fail
  have hal := (alloc_below w9 (.cells #[.int .i64 3, .int .i64 10, .int .i64 20, .int .i64 5, .int .i64 20, .int .i64 26, .int .i64 4, .int .i64 26, .int .i64 30] 33))
  refine (show Calls _ _ _ _ (fun e w' => e = .returned (.bool true) ∧ Below (w9.alloc (.cells #[.int .i64 3, .int .i64 10, .int .i64 20, .int .i64 5, .int .i64 20, .int .i64 26, .int .i64 4, .int .i64 26, .int .i64 30] 33)).heap.size _ w') from I.same _ _ _ _ _ _ l6 l6 _ (Ry.out.keep scells_len hal) (rw_new _ l6 _ rfl) (by decide)).mono ?_
  intro e w10 he
  obtain ⟨rfl, hb0⟩ := he
  have hb := hal.trans (hb0.mono hal.size)
  have Rx2 := Lib.hid (Rx.out.keep scells_len hb)
  clear Rx
  have Rx := Lib.hid Rx2.out
  clear Rx2
  have Ry2 := Lib.hid (Ry.out.keep scells_len hb)
  clear Ry
  have Ry := Lib.hid Ry2.out
  clear Ry2
  have B2 := Lib.hid (B.out.trans (hb.mono B.out.size))
  clear B
  have B := Lib.hid B2.out
  clear B2
  clear hb hb0 hal
  go_wp2_with fail
  refine (show Calls _ _ _ _ (fun e w' => e = .returned (.int .i64 5) ∧ Below w10.heap.size _ w') from I.zone _ _ _ l6 25 _ Ry.out (by decide)).mono ?_
  intro e w11 he
  obtain ⟨rfl, hb⟩ := he
  have Rx2 := Lib.hid (Rx.out.keep scells_len hb)
  clear Rx
  have Rx := Lib.hid Rx2.out
  clear Rx2
  have Ry2 := Lib.hid (Ry.out.keep scells_len hb)
  clear Ry
  have Ry := Lib.hid Ry2.out
  clear Ry2
  have B2 := Lib.hid (B.out.trans (hb.mono B.out.size))
  clear B
  have B := Lib.hid B2.out
  clear B2
  clear hb
  go_wp2_with fail
  refine (show Calls _ _ _ _ (fun e w' => e = .returned (.int .i64 0) ∧ Below w11.heap.size _ w') from I.zone _ _ _ l6 30 _ Ry.out (by decide)).mono ?_
  intro e w12 he
  obtain ⟨rfl, hb⟩ := he
  have Rx2 := Lib.hid (Rx.out.keep scells_len hb)
  clear Rx
  have Rx := Lib.hid Rx2.out
  clear Rx2
  clear Ry
  have B2 := Lib.hid (B.out.trans (hb.mono B.out.size))
  clear B
  have B := Lib.hid B2.out
  clear B2
  clear hb
  go_wp2_with fail
  refine (show Calls _ _ _ _ (fun e w' => e = .returned (.int .i64 18) ∧ Below w12.heap.size _ w') from I.minutes _ _ _ l5 28 _ Rx.out (by decide) hcx (by decide)).mono ?_
  intro e w13 he
  obtain ⟨rfl, hb⟩ := he
  have Rx2 := Lib.hid (Rx.out.keep scells_len hb)
  clear Rx
  have Rx := Lib.hid Rx2.out
  clear Rx2
  have B2 := Lib.hid (B.out.trans (hb.mono B.out.size))
  clear B
  have B := Lib.hid B2.out
  clear B2
  clear hb
  go_wp2_with fail
  refine ((I.upto _ _ _ l5 20 _ Rx.out (by decide) hcx).mono (fun e w1 h => upto_end (n := 1) (by decide) h)).mono ?_
  intro e w14 he
  obtain ⟨qu, cu, rfl, hb⟩ := he
  clear Rx
  have B2 := Lib.hid (B.out.trans (hb.mono B.out.size))
  clear B
  have B := Lib.hid B2.out
  clear B2
  clear hb
  go_wp2
  go_ret
  exact ⟨rfl, B.out⟩
end Sy
end Go.Proofs.Ytdnjmcfnngkhlaa
