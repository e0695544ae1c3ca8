/- The walk over the law that holds package order against the document's answer. Conditions: the contracts of package order; what comes in reads as acts. -/
import Derived.Test.YtpkniomjohjbiaaOrL1
import Derived.Test.YtpkniomjohjbiaaOrTwo
import Derived.Test.YtpkniomjohjbiaaRng
namespace Go.Proofs.Ytpkniomjohjbiaa
open Go.RowKit

namespace Or
/-- An act. -/
structure Ac where
  kind : Int
  a : Int
  b : Int
def acells (x : Ac) : List Value := [.int .u8 x.kind, .int .i64 x.a, .int .i64 x.b]
theorem acells_len (x : Ac) : (acells x).length = 3 := rfl
def Aok (x : Ac) : Prop := (0 ≤ x.kind ∧ x.kind ≤ 255) ∧ I64 x.a ∧ I64 x.b
theorem ac_at {w : World} {p : Option Addr} {n : Nat} {l : List Ac} (h : Rw 3 acells w p n l) {k : Nat} {x : Ac} (hx : l[k]? = some x) :
    ∃ b o, p = some ⟨b, o, none⟩ ∧ b < w.heap.size ∧ w.cell? ⟨b, o + k * 3, none⟩ = some (.int .u8 x.kind) ∧ w.cell? ⟨b, o + k * 3 + 1, none⟩ = some (.int .i64 x.a) ∧ w.cell? ⟨b, o + k * 3 + 2, none⟩ = some (.int .i64 x.b) := by
  have hk := (List.getElem?_eq_some_iff.1 hx).1
  obtain ⟨b, o, e, hc⟩ := h.2 (by rw [← h.1]; omega)
  have h0 := hc k x hx 0 (by decide)
  exact ⟨b, o, e, World.block_lt_of_cell? w _ h0, h0, hc k x hx 1 (by decide), hc k x hx 2 (by decide)⟩
set_option maxRecDepth 100000 in
set_option maxHeartbeats 16000000 in
theorem oplays_long (I : Face) (p : Option Addr) (n c : Nat) (w : World) (hn : 200 < n) (hn2 : n ≤ 9223372036854775807) : Calls Try.prog 3 #[.slice p n c] w fun e w' => e = .returned (.bool true) ∧ Below w.heap.size w w' := by
  have AL := Lib.hid (fun W => oalive_any I W)
  have t0 : decide (((n : Nat) : Int) > 200) = true := by simp; omega
  have hn3 : ((n : Nat) : Int) ≤ 9223372036854775807 := by omega
  clear hn hn2
  go_enter Try.func3, Try.ntmps3
  go_wp2_with fail
  refine (AL.out _).mono ?_
  rintro e w2 ⟨rfl, hb⟩
  have B2 := Lib.hid hb
  clear hb
  go_wp2
  go_ret
  exact ⟨rfl, B2.out⟩
set_option maxRecDepth 100000 in
set_option maxHeartbeats 16000000 in
theorem oplays_short (I : Face) (p : Option Addr) (n c : Nat) (A : List Ac) (w : World) (hA : Rw 3 acells w p n A) (hO : ∀ x ∈ A, Aok x) (hn : n ≤ 200) : Calls Try.prog 3 #[.slice p n c] w fun e w' => e = .returned (.bool true) ∧ Below w.heap.size w w' := by
  have AL := Lib.hid (fun W => oalive_any I W)
  have HA := Lib.hid hA
  have HO := Lib.hid hO
  have HN := Lib.hid hA.1
  have t0 : decide (((n : Nat) : Int) > 200) = false := by simp; omega
  have hn3 : ((n : Nat) : Int) ≤ 200 := by omega
  clear hA hO hn
  go_enter Try.func3, Try.ntmps3
  go_wp2_with fail
  refine (I.new w).mono ?_
  rintro e w1 ⟨h, F, rfl, hd, hb⟩
  have T1 := Lib.hid (two_new hd hb)
  clear hd hb
  go_wp2_with fail
  go_loopw [5, 6] (fun v i wr => ∃ (k : Nat) (l : List Od) (q : Option Addr) (m d : Nat), k ≤ n ∧ i = .int .i64 k ∧ v = .slice q m d ∧ Hid (Two I w wr h l q m d l)) (fun _ i _ => n - (RowKit.intOf i).toNat)
  case atStart => exact ⟨0, [], none, 0, 0, Nat.zero_le _, rfl, rfl, T1⟩
  case round =>
    clear T1
    obtain ⟨k, l, q, m, d, hk, rfl, rfl, TR⟩ := hrel
    by_cases hlt : k < n
    · have hk3 : (k : Int) < (n : Int) := by omega
      obtain ⟨x, hx⟩ : ∃ x, A[k]? = some x := ⟨_, List.getElem?_eq_getElem (by rw [HN.out]; exact hlt)⟩
      obtain ⟨b, o, rfl, hbl, g0, g1, g2⟩ := ac_at HA.out hx
      obtain ⟨⟨hk0, hk1⟩, ha, hb'⟩ := HO.out x (List.mem_of_getElem? hx)
      obtain ⟨kd, xa, xb⟩ := x
      simp only at g0 g1 g2 hk0 hk1 ha hb'
      have I1 := Lib.hid ha
      have I2 := Lib.hid hb'
      have E0 := Lib.hid (fun W (hW : Below w.heap.size w W) => (hW.cell (p := ⟨b, o + k * 3, none⟩) hbl).trans g0)
      have E1 := Lib.hid (fun W (hW : Below w.heap.size w W) => (hW.cell (p := ⟨b, o + k * 3 + 1, none⟩) hbl).trans g1)
      have E2 := Lib.hid (fun W (hW : Below w.heap.size w W) => (hW.cell (p := ⟨b, o + k * 3 + 2, none⟩) hbl).trans g2)
      have e0 : wr.cell? ⟨b, o + k * 3, none⟩ = some (.int .u8 kd) := E0.out _ TR.out.base
      have e1 : wr.cell? ⟨b, o + k * 3 + 1, none⟩ = some (.int .i64 xa) := E1.out _ TR.out.base
      have GL := Lib.hid TR.out.good
      clear hx g0 g1 g2 ha hb' hbl
      obtain ⟨r, hr⟩ : ∃ r : Int, kd % 5 = r := ⟨_, rfl⟩
      have hr' : kd.tmod 5 = r := by rw [Int.tmod_eq_emod_of_nonneg hk0]; exact hr
      by_cases h2 : r = 2
      · have r2 : (r == 2) = true := by simp [h2]
        clear h2
        go_wp2_with fail
        refine (two_alloc1 TR.out xa I1.out).mono ?_
        rintro e w2 ⟨rfl, ht⟩
        have T2 := Lib.hid ht
        have P := Lib.hid (two_change2 ht GL.out xa 0 1 (by decide) (by decide))
        clear ht TR e0 e1
        generalize (changeF l xa 0 1).2 = en at *
        generalize (changeF l xa 0 1).1 = l' at *
        have e1 : w2.cell? ⟨b, o + k * 3 + 1, none⟩ = some (.int .i64 xa) := E1.out _ T2.out.base
        go_wp2_with fail
        refine P.out.mono ?_
        rintro e w3 ⟨q2, m2, d2, rfl, ht⟩
        have T3 := Lib.hid ht
        clear ht T2 P e1
        go_wp2_with fail
        refine (two_orders T3.out).mono ?_
        rintro e w4 ⟨p3, n3, c3, rfl, hr3, hn3', ht⟩
        have T4 := Lib.hid ht
        have R3 := Lib.hid (two_same (c := c3) ht hr3 hn3')
        clear ht hr3 hn3' T3
        go_wp2_with fail
        refine R3.out.mono ?_
        rintro e w5 ⟨rfl, ht⟩
        have T5 := Lib.hid ht
        clear ht R3 T4
        have O1 := Lib.hid (bk_order T5.out.bk xa I1.out)
        have O2 := Lib.hid (fun W (t : Two I w W h l' q2 m2 d2 l') => two_order2 t xa)
        generalize (orderF l' xa).2 = oe at *
        generalize (orderF l' xa).1 = oo at *
        obtain ⟨oa, ob, oc, od⟩ := oo
        simp only [oval] at O1 O2
        have e1 : w5.cell? ⟨b, o + k * 3 + 1, none⟩ = some (.int .i64 xa) := E1.out _ T5.out.base
        go_wp2_with fail
        refine O1.out.mono ?_
        rintro e w6 ⟨rfl, hb⟩
        have C6 := Lib.hid (Lies.new w6 40 #[.int .i64 oa, .int .i64 ob, .int .i64 oc, .int .i64 od])
        have T6 := Lib.hid ((T5.out.below hb).below (alloc_below w6 (.cells #[.int .i64 oa, .int .i64 ob, .int .i64 oc, .int .i64 od] 40)))
        clear hb O1 T5 e1
        have e1 : (w6.alloc (.cells #[.int .i64 oa, .int .i64 ob, .int .i64 oc, .int .i64 od] 40)).cell? ⟨b, o + k * 3 + 1, none⟩ = some (.int .i64 xa) := E1.out _ T6.out.base
        have P2 := Lib.hid (O2.out _ T6.out)
        clear O2
        go_wp2_with fail
        refine P2.out.mono ?_
        rintro e w7 ⟨rfl, hb⟩
        have C7 := Lib.hid ((C6.out.below hb C6.out.lt).alloc (.cells #[.int .i64 oa, .int .i64 ob, .int .i64 oc, .int .i64 od] 40))
        have T7 := Lib.hid ((T6.out.below hb).below (alloc_below w7 (.cells #[.int .i64 oa, .int .i64 ob, .int .i64 oc, .int .i64 od] 40)))
        clear hb P2 T6 e1 C6
        have y0 : (w7.alloc (.cells #[.int .i64 oa, .int .i64 ob, .int .i64 oc, .int .i64 od] 40)).cell? ⟨w6.heap.size, 0, none⟩ = some (.int .i64 oa) := C7.out.cell 0
        have y1 : (w7.alloc (.cells #[.int .i64 oa, .int .i64 ob, .int .i64 oc, .int .i64 od] 40)).cell? ⟨w6.heap.size, 1, none⟩ = some (.int .i64 ob) := C7.out.cell 1
        have y2 : (w7.alloc (.cells #[.int .i64 oa, .int .i64 ob, .int .i64 oc, .int .i64 od] 40)).cell? ⟨w6.heap.size, 2, none⟩ = some (.int .i64 oc) := C7.out.cell 2
        have y3 : (w7.alloc (.cells #[.int .i64 oa, .int .i64 ob, .int .i64 oc, .int .i64 od] 40)).cell? ⟨w6.heap.size, 3, none⟩ = some (.int .i64 od) := C7.out.cell 3
        clear C7
        have z0 : (oa == oa) = true := by simp
        have z1 : (ob == ob) = true := by simp
        have z2 : (oc == oc) = true := by simp
        have z3 : (od == od) = true := by simp
        have z4 : (oe != oe) = false := by simp
        have z5 : (en != en) = false := by simp
        go_wp2
        go_roundw
        case rel => exact ⟨k + 1, l', q2, m2, d2, by omega, by go_num, rfl, T7⟩
        case measure => simp [RowKit.intOf]; omega
      have r2 : (r == 2) = false := by simp [h2]
      by_cases h3 : r = 3
      · have r3 : (r == 3) = true := by simp [h3]
        clear h2 h3
        go_wp2_with fail
        refine (two_free1 TR.out xa I1.out).mono ?_
        rintro e w2 ⟨rfl, ht⟩
        have T2 := Lib.hid ht
        have P := Lib.hid (two_change2 ht GL.out xa 1 0 (by decide) (by decide))
        clear ht TR e0 e1
        generalize (changeF l xa 1 0).2 = en at *
        generalize (changeF l xa 1 0).1 = l' at *
        have e1 : w2.cell? ⟨b, o + k * 3 + 1, none⟩ = some (.int .i64 xa) := E1.out _ T2.out.base
        go_wp2_with fail
        refine P.out.mono ?_
        rintro e w3 ⟨q2, m2, d2, rfl, ht⟩
        have T3 := Lib.hid ht
        clear ht T2 P e1
        go_wp2_with fail
        refine (two_orders T3.out).mono ?_
        rintro e w4 ⟨p3, n3, c3, rfl, hr3, hn3', ht⟩
        have T4 := Lib.hid ht
        have R3 := Lib.hid (two_same (c := c3) ht hr3 hn3')
        clear ht hr3 hn3' T3
        go_wp2_with fail
        refine R3.out.mono ?_
        rintro e w5 ⟨rfl, ht⟩
        have T5 := Lib.hid ht
        clear ht R3 T4
        have O1 := Lib.hid (bk_order T5.out.bk xa I1.out)
        have O2 := Lib.hid (fun W (t : Two I w W h l' q2 m2 d2 l') => two_order2 t xa)
        generalize (orderF l' xa).2 = oe at *
        generalize (orderF l' xa).1 = oo at *
        obtain ⟨oa, ob, oc, od⟩ := oo
        simp only [oval] at O1 O2
        have e1 : w5.cell? ⟨b, o + k * 3 + 1, none⟩ = some (.int .i64 xa) := E1.out _ T5.out.base
        go_wp2_with fail
        refine O1.out.mono ?_
        rintro e w6 ⟨rfl, hb⟩
        have C6 := Lib.hid (Lies.new w6 40 #[.int .i64 oa, .int .i64 ob, .int .i64 oc, .int .i64 od])
        have T6 := Lib.hid ((T5.out.below hb).below (alloc_below w6 (.cells #[.int .i64 oa, .int .i64 ob, .int .i64 oc, .int .i64 od] 40)))
        clear hb O1 T5 e1
        have e1 : (w6.alloc (.cells #[.int .i64 oa, .int .i64 ob, .int .i64 oc, .int .i64 od] 40)).cell? ⟨b, o + k * 3 + 1, none⟩ = some (.int .i64 xa) := E1.out _ T6.out.base
        have P2 := Lib.hid (O2.out _ T6.out)
        clear O2
        go_wp2_with fail
        refine P2.out.mono ?_
        rintro e w7 ⟨rfl, hb⟩
        have C7 := Lib.hid ((C6.out.below hb C6.out.lt).alloc (.cells #[.int .i64 oa, .int .i64 ob, .int .i64 oc, .int .i64 od] 40))
        have T7 := Lib.hid ((T6.out.below hb).below (alloc_below w7 (.cells #[.int .i64 oa, .int .i64 ob, .int .i64 oc, .int .i64 od] 40)))
        clear hb P2 T6 e1 C6
        have y0 : (w7.alloc (.cells #[.int .i64 oa, .int .i64 ob, .int .i64 oc, .int .i64 od] 40)).cell? ⟨w6.heap.size, 0, none⟩ = some (.int .i64 oa) := C7.out.cell 0
        have y1 : (w7.alloc (.cells #[.int .i64 oa, .int .i64 ob, .int .i64 oc, .int .i64 od] 40)).cell? ⟨w6.heap.size, 1, none⟩ = some (.int .i64 ob) := C7.out.cell 1
        have y2 : (w7.alloc (.cells #[.int .i64 oa, .int .i64 ob, .int .i64 oc, .int .i64 od] 40)).cell? ⟨w6.heap.size, 2, none⟩ = some (.int .i64 oc) := C7.out.cell 2
        have y3 : (w7.alloc (.cells #[.int .i64 oa, .int .i64 ob, .int .i64 oc, .int .i64 od] 40)).cell? ⟨w6.heap.size, 3, none⟩ = some (.int .i64 od) := C7.out.cell 3
        clear C7
        have z0 : (oa == oa) = true := by simp
        have z1 : (ob == ob) = true := by simp
        have z2 : (oc == oc) = true := by simp
        have z3 : (od == od) = true := by simp
        have z4 : (oe != oe) = false := by simp
        have z5 : (en != en) = false := by simp
        go_wp2
        go_roundw
        case rel => exact ⟨k + 1, l', q2, m2, d2, by omega, by go_num, rfl, T7⟩
        case measure => simp [RowKit.intOf]; omega
      have r3 : (r == 3) = false := by simp [h3]
      by_cases h4 : r = 4
      · have r4 : (r == 4) = true := by simp [h4]
        clear h2 h3 h4
        go_wp2_with fail
        refine (two_ship1 TR.out xa I1.out).mono ?_
        rintro e w2 ⟨rfl, ht⟩
        have T2 := Lib.hid ht
        have P := Lib.hid (two_change2 ht GL.out xa 1 2 (by decide) (by decide))
        clear ht TR e0 e1
        generalize (changeF l xa 1 2).2 = en at *
        generalize (changeF l xa 1 2).1 = l' at *
        have e1 : w2.cell? ⟨b, o + k * 3 + 1, none⟩ = some (.int .i64 xa) := E1.out _ T2.out.base
        go_wp2_with fail
        refine P.out.mono ?_
        rintro e w3 ⟨q2, m2, d2, rfl, ht⟩
        have T3 := Lib.hid ht
        clear ht T2 P e1
        go_wp2_with fail
        refine (two_orders T3.out).mono ?_
        rintro e w4 ⟨p3, n3, c3, rfl, hr3, hn3', ht⟩
        have T4 := Lib.hid ht
        have R3 := Lib.hid (two_same (c := c3) ht hr3 hn3')
        clear ht hr3 hn3' T3
        go_wp2_with fail
        refine R3.out.mono ?_
        rintro e w5 ⟨rfl, ht⟩
        have T5 := Lib.hid ht
        clear ht R3 T4
        have O1 := Lib.hid (bk_order T5.out.bk xa I1.out)
        have O2 := Lib.hid (fun W (t : Two I w W h l' q2 m2 d2 l') => two_order2 t xa)
        generalize (orderF l' xa).2 = oe at *
        generalize (orderF l' xa).1 = oo at *
        obtain ⟨oa, ob, oc, od⟩ := oo
        simp only [oval] at O1 O2
        have e1 : w5.cell? ⟨b, o + k * 3 + 1, none⟩ = some (.int .i64 xa) := E1.out _ T5.out.base
        go_wp2_with fail
        refine O1.out.mono ?_
        rintro e w6 ⟨rfl, hb⟩
        have C6 := Lib.hid (Lies.new w6 40 #[.int .i64 oa, .int .i64 ob, .int .i64 oc, .int .i64 od])
        have T6 := Lib.hid ((T5.out.below hb).below (alloc_below w6 (.cells #[.int .i64 oa, .int .i64 ob, .int .i64 oc, .int .i64 od] 40)))
        clear hb O1 T5 e1
        have e1 : (w6.alloc (.cells #[.int .i64 oa, .int .i64 ob, .int .i64 oc, .int .i64 od] 40)).cell? ⟨b, o + k * 3 + 1, none⟩ = some (.int .i64 xa) := E1.out _ T6.out.base
        have P2 := Lib.hid (O2.out _ T6.out)
        clear O2
        go_wp2_with fail
        refine P2.out.mono ?_
        rintro e w7 ⟨rfl, hb⟩
        have C7 := Lib.hid ((C6.out.below hb C6.out.lt).alloc (.cells #[.int .i64 oa, .int .i64 ob, .int .i64 oc, .int .i64 od] 40))
        have T7 := Lib.hid ((T6.out.below hb).below (alloc_below w7 (.cells #[.int .i64 oa, .int .i64 ob, .int .i64 oc, .int .i64 od] 40)))
        clear hb P2 T6 e1 C6
        have y0 : (w7.alloc (.cells #[.int .i64 oa, .int .i64 ob, .int .i64 oc, .int .i64 od] 40)).cell? ⟨w6.heap.size, 0, none⟩ = some (.int .i64 oa) := C7.out.cell 0
        have y1 : (w7.alloc (.cells #[.int .i64 oa, .int .i64 ob, .int .i64 oc, .int .i64 od] 40)).cell? ⟨w6.heap.size, 1, none⟩ = some (.int .i64 ob) := C7.out.cell 1
        have y2 : (w7.alloc (.cells #[.int .i64 oa, .int .i64 ob, .int .i64 oc, .int .i64 od] 40)).cell? ⟨w6.heap.size, 2, none⟩ = some (.int .i64 oc) := C7.out.cell 2
        have y3 : (w7.alloc (.cells #[.int .i64 oa, .int .i64 ob, .int .i64 oc, .int .i64 od] 40)).cell? ⟨w6.heap.size, 3, none⟩ = some (.int .i64 od) := C7.out.cell 3
        clear C7
        have z0 : (oa == oa) = true := by simp
        have z1 : (ob == ob) = true := by simp
        have z2 : (oc == oc) = true := by simp
        have z3 : (od == od) = true := by simp
        have z4 : (oe != oe) = false := by simp
        have z5 : (en != en) = false := by simp
        go_wp2
        go_roundw
        case rel => exact ⟨k + 1, l', q2, m2, d2, by omega, by go_num, rfl, T7⟩
        case measure => simp [RowKit.intOf]; omega
      have r4 : (r == 4) = false := by simp [h4]
      clear h2 h3 h4
      go_wp2_with fail
      clear e0 e1
      have DB0 : Below wr.heap.size wr wr.drew := ⟨rfl, rfl, rfl, Nat.le_refl _, fun _ _ => rfl⟩
      have TD := Lib.hid (TR.out.below DB0)
      have e1 : wr.drew.cell? ⟨b, o + k * 3 + 1, none⟩ = some (.int .i64 xa) := E1.out _ TD.out.base
      have e2 : wr.drew.cell? ⟨b, o + k * 3 + 2, none⟩ = some (.int .i64 xb) := E2.out _ TD.out.base
      clear DB0 TR
      refine region_T 11 (fun w' => w'.cell? ⟨b, o + k * 3 + 1, none⟩ = some (.int .i64 xa) ∧ w'.cell? ⟨b, o + k * 3 + 2, none⟩ = some (.int .i64 xb)) (by kernel_rfl) ⟨e1, e2⟩ (fun hS => ?_)
      clear e1 e2
      refine takeL (i := 0) (v := ?_) rfl (by kernel_rfl) (by kernel_rfl) (by kernel_rfl) (by kernel_rfl) (by kernel_rfl) (fun _ _ _ h => h) (Or.inl ⟨by rfl, ?_⟩) (by assumption) ?_
      rotate_left
      · (intro w' hSw; (try dsimp only at hSw); go_simp; with_reducible rfl)
      try simp only [Act.put, List.setIfInBounds_toArray, List.set_cons_zero, List.set_cons_succ]
      refine takeL (i := 1) (v := ?_) rfl (by kernel_rfl) (by kernel_rfl) (by kernel_rfl) (by kernel_rfl) (by kernel_rfl) (fun _ _ _ h => h) (Or.inl ⟨by rfl, ?_⟩) (by assumption) ?_
      rotate_left
      · (intro w' hSw; (try dsimp only at hSw); go_simp; with_reducible rfl)
      try simp only [Act.put, List.setIfInBounds_toArray, List.set_cons_zero, List.set_cons_succ]
      refine takeL (i := 2) (v := ?_) rfl (by kernel_rfl) (by kernel_rfl) (by kernel_rfl) (by kernel_rfl) (by kernel_rfl) (fun _ _ _ h => h) (Or.inl ⟨by rfl, ?_⟩) (by assumption) ?_
      rotate_left
      · (intro w' hSw; (try dsimp only at hSw); go_simp; with_reducible rfl)
      try simp only [Act.put, List.setIfInBounds_toArray, List.set_cons_zero, List.set_cons_succ]
      refine takeL (i := 3) (v := ?_) rfl (by kernel_rfl) (by kernel_rfl) (by kernel_rfl) (by kernel_rfl) (by kernel_rfl) (fun _ _ _ h => h) (Or.inl ⟨by rfl, ?_⟩) (by assumption) ?_
      rotate_left
      · (intro w' hSw; (try dsimp only at hSw); go_simp; with_reducible rfl)
      try simp only [Act.put, List.setIfInBounds_toArray, List.set_cons_zero, List.set_cons_succ]
      refine takeL (i := 4) (v := ?_) rfl (by kernel_rfl) (by kernel_rfl) (by kernel_rfl) (by kernel_rfl) (by kernel_rfl) (fun _ _ _ h => h) (Or.inl ⟨by rfl, ?_⟩) (by assumption) ?_
      rotate_left
      · (intro w' hSw; (try dsimp only at hSw); go_simp; with_reducible rfl)
      try simp only [Act.put, List.setIfInBounds_toArray, List.set_cons_zero, List.set_cons_succ]
      refine takeL (i := 5) (v := ?_) rfl (by kernel_rfl) (by kernel_rfl) (by kernel_rfl) (by kernel_rfl) (by kernel_rfl) (fun _ _ _ h => h) (Or.inl ⟨by rfl, ?_⟩) (by assumption) ?_
      rotate_left
      · (intro w' hSw; (try dsimp only at hSw); go_simp; with_reducible rfl)
      try simp only [Act.put, List.setIfInBounds_toArray, List.set_cons_zero, List.set_cons_succ]
      refine takeL (i := 6) (v := ?_) rfl (by kernel_rfl) (by kernel_rfl) (by kernel_rfl) (by kernel_rfl) (by kernel_rfl) (fun _ _ _ h => h) (Or.inl ⟨by rfl, ?_⟩) (by assumption) ?_
      rotate_left
      · (intro w' hSw; (try dsimp only at hSw); go_simp; with_reducible rfl)
      try simp only [Act.put, List.setIfInBounds_toArray, List.set_cons_zero, List.set_cons_succ]
      refine takeL (i := 7) (v := ?_) rfl (by kernel_rfl) (by kernel_rfl) (by kernel_rfl) (by kernel_rfl) (by kernel_rfl) (fun _ _ _ h => h) (Or.inl ⟨by rfl, ?_⟩) (by assumption) ?_
      rotate_left
      · (intro w' hSw; (try dsimp only at hSw); go_simp; with_reducible rfl)
      try simp only [Act.put, List.setIfInBounds_toArray, List.set_cons_zero, List.set_cons_succ]
      refine takeL (i := 8) (v := ?_) rfl (by kernel_rfl) (by kernel_rfl) (by kernel_rfl) (by kernel_rfl) (by kernel_rfl) (fun _ _ _ h => h) (Or.inl ⟨by rfl, ?_⟩) (by assumption) ?_
      rotate_left
      · (intro w' hSw; (try dsimp only at hSw); go_simp; with_reducible rfl)
      try simp only [Act.put, List.setIfInBounds_toArray, List.set_cons_zero, List.set_cons_succ]
      refine takeL (i := 9) (v := ?_) rfl (by kernel_rfl) (by kernel_rfl) (by kernel_rfl) (by kernel_rfl) (by kernel_rfl) (fun _ _ _ h => h) (Or.inl ⟨by rfl, ?_⟩) (by assumption) ?_
      rotate_left
      · (intro w' hSw; (try dsimp only at hSw); go_simp; with_reducible rfl)
      try simp only [Act.put, List.setIfInBounds_toArray, List.set_cons_zero, List.set_cons_succ]
      refine takeL (i := 10) (v := ?_) rfl (by kernel_rfl) (by kernel_rfl) (by kernel_rfl) (by kernel_rfl) (by kernel_rfl) (fun _ _ _ h => h) (Or.inl ⟨by rfl, ?_⟩) (by assumption) ?_
      rotate_left
      · (intro w' hSw; (try dsimp only at hSw); go_simp; with_reducible rfl)
      try simp only [Act.put, List.setIfInBounds_toArray, List.set_cons_zero, List.set_cons_succ]
      refine oneL (i := 11) (by kernel_rfl) rfl (fun K hK => ?_)
      go_simp
      refine (two_want1 TD.out xa xb I1.out I2.out).mono ?_
      rintro e w2 ⟨rfl, ht⟩
      have T2 := Lib.hid ht
      clear ht TD
      refine hK.out _ _ (fun h => absurd h (by decide)) ?_
      clear hK K hS
      try simp only [Act.put, List.setIfInBounds_toArray, List.set_cons_zero, List.set_cons_succ]
      refine laterT 17 _ _ _ _ (by kernel_rfl) ?_
      have hS : (fun _ : World => True) w2 := trivial
      refine takeL (i := 12) (v := ?_) rfl (by kernel_rfl) (by kernel_rfl) (by kernel_rfl) (by kernel_rfl) (by kernel_rfl) (fun _ _ _ h => h) (Or.inl ⟨by rfl, ?_⟩) (by assumption) ?_
      rotate_left
      · (intro w' hSw; (try dsimp only at hSw); go_simp; with_reducible rfl)
      try simp only [Act.put, List.setIfInBounds_toArray, List.set_cons_zero, List.set_cons_succ]
      refine takeL (i := 13) (v := ?_) rfl (by kernel_rfl) (by kernel_rfl) (by kernel_rfl) (by kernel_rfl) (by kernel_rfl) (fun _ _ _ h => h) (Or.inl ⟨by rfl, ?_⟩) (by assumption) ?_
      rotate_left
      · (intro w' hSw; (try dsimp only at hSw); go_simp; with_reducible rfl)
      try simp only [Act.put, List.setIfInBounds_toArray, List.set_cons_zero, List.set_cons_succ]
      refine takeL (i := 14) (v := ?_) rfl (by kernel_rfl) (by kernel_rfl) (by kernel_rfl) (by kernel_rfl) (by kernel_rfl) (fun _ _ _ h => h) (Or.inl ⟨by rfl, ?_⟩) (by assumption) ?_
      rotate_left
      · (intro w' hSw; (try dsimp only at hSw); go_simp; with_reducible rfl)
      try simp only [Act.put, List.setIfInBounds_toArray, List.set_cons_zero, List.set_cons_succ]
      refine takeL (i := 15) (v := ?_) rfl (by kernel_rfl) (by kernel_rfl) (by kernel_rfl) (by kernel_rfl) (by kernel_rfl) (fun _ _ _ h => h) (Or.inl ⟨by rfl, ?_⟩) (by assumption) ?_
      rotate_left
      · (intro w' hSw; (try dsimp only at hSw); go_simp; with_reducible rfl)
      try simp only [Act.put, List.setIfInBounds_toArray, List.set_cons_zero, List.set_cons_succ]
      refine takeL (i := 16) (v := ?_) rfl (by kernel_rfl) (by kernel_rfl) (by kernel_rfl) (by kernel_rfl) (by kernel_rfl) (fun _ _ _ h => h) (Or.inl ⟨by rfl, ?_⟩) (by assumption) ?_
      rotate_left
      · (intro w' hSw; (try dsimp only at hSw); go_simp; with_reducible rfl)
      try simp only [Act.put, List.setIfInBounds_toArray, List.set_cons_zero, List.set_cons_succ]
      refine doneO (by kernel_rfl) ?_ _
      clear hS
      have DB0 : Below w2.heap.size w2 w2.drew := ⟨rfl, rfl, rfl, Nat.le_refl _, fun _ _ => rfl⟩
      have TD := Lib.hid (T2.out.below DB0)
      have e1 : w2.drew.cell? ⟨b, o + k * 3 + 1, none⟩ = some (.int .i64 xa) := E1.out _ TD.out.base
      have e2 : w2.drew.cell? ⟨b, o + k * 3 + 2, none⟩ = some (.int .i64 xb) := E2.out _ TD.out.base
      have P := Lib.hid (two_want2 TD.out GL.out xa xb)
      clear DB0 T2 TD
      generalize (wantF l xa xb).2.2 = en at *
      generalize (wantF l xa xb).2.1 = nn at *
      generalize (wantF l xa xb).1 = l' at *
      go_wp2_with fail
      refine region_T 11 (fun w' => w'.cell? ⟨b, o + k * 3 + 1, none⟩ = some (.int .i64 xa) ∧ w'.cell? ⟨b, o + k * 3 + 2, none⟩ = some (.int .i64 xb)) (by kernel_rfl) ⟨e1, e2⟩ (fun hS => ?_)
      clear e1 e2
      refine takeL (i := 0) (v := ?_) rfl (by kernel_rfl) (by kernel_rfl) (by kernel_rfl) (by kernel_rfl) (by kernel_rfl) (fun _ _ _ h => h) (Or.inl ⟨by rfl, ?_⟩) (by assumption) ?_
      rotate_left
      · (intro w' hSw; (try dsimp only at hSw); go_simp; with_reducible rfl)
      try simp only [Act.put, List.setIfInBounds_toArray, List.set_cons_zero, List.set_cons_succ]
      refine takeL (i := 1) (v := ?_) rfl (by kernel_rfl) (by kernel_rfl) (by kernel_rfl) (by kernel_rfl) (by kernel_rfl) (fun _ _ _ h => h) (Or.inl ⟨by rfl, ?_⟩) (by assumption) ?_
      rotate_left
      · (intro w' hSw; (try dsimp only at hSw); go_simp; with_reducible rfl)
      try simp only [Act.put, List.setIfInBounds_toArray, List.set_cons_zero, List.set_cons_succ]
      refine takeL (i := 2) (v := ?_) rfl (by kernel_rfl) (by kernel_rfl) (by kernel_rfl) (by kernel_rfl) (by kernel_rfl) (fun _ _ _ h => h) (Or.inl ⟨by rfl, ?_⟩) (by assumption) ?_
      rotate_left
      · (intro w' hSw; (try dsimp only at hSw); go_simp; with_reducible rfl)
      try simp only [Act.put, List.setIfInBounds_toArray, List.set_cons_zero, List.set_cons_succ]
      refine takeL (i := 3) (v := ?_) rfl (by kernel_rfl) (by kernel_rfl) (by kernel_rfl) (by kernel_rfl) (by kernel_rfl) (fun _ _ _ h => h) (Or.inl ⟨by rfl, ?_⟩) (by assumption) ?_
      rotate_left
      · (intro w' hSw; (try dsimp only at hSw); go_simp; with_reducible rfl)
      try simp only [Act.put, List.setIfInBounds_toArray, List.set_cons_zero, List.set_cons_succ]
      refine takeL (i := 4) (v := ?_) rfl (by kernel_rfl) (by kernel_rfl) (by kernel_rfl) (by kernel_rfl) (by kernel_rfl) (fun _ _ _ h => h) (Or.inl ⟨by rfl, ?_⟩) (by assumption) ?_
      rotate_left
      · (intro w' hSw; (try dsimp only at hSw); go_simp; with_reducible rfl)
      try simp only [Act.put, List.setIfInBounds_toArray, List.set_cons_zero, List.set_cons_succ]
      refine takeL (i := 5) (v := ?_) rfl (by kernel_rfl) (by kernel_rfl) (by kernel_rfl) (by kernel_rfl) (by kernel_rfl) (fun _ _ _ h => h) (Or.inl ⟨by rfl, ?_⟩) (by assumption) ?_
      rotate_left
      · (intro w' hSw; (try dsimp only at hSw); go_simp; with_reducible rfl)
      try simp only [Act.put, List.setIfInBounds_toArray, List.set_cons_zero, List.set_cons_succ]
      refine takeL (i := 6) (v := ?_) rfl (by kernel_rfl) (by kernel_rfl) (by kernel_rfl) (by kernel_rfl) (by kernel_rfl) (fun _ _ _ h => h) (Or.inl ⟨by rfl, ?_⟩) (by assumption) ?_
      rotate_left
      · (intro w' hSw; (try dsimp only at hSw); go_simp; with_reducible rfl)
      try simp only [Act.put, List.setIfInBounds_toArray, List.set_cons_zero, List.set_cons_succ]
      refine takeL (i := 7) (v := ?_) rfl (by kernel_rfl) (by kernel_rfl) (by kernel_rfl) (by kernel_rfl) (by kernel_rfl) (fun _ _ _ h => h) (Or.inl ⟨by rfl, ?_⟩) (by assumption) ?_
      rotate_left
      · (intro w' hSw; (try dsimp only at hSw); go_simp; with_reducible rfl)
      try simp only [Act.put, List.setIfInBounds_toArray, List.set_cons_zero, List.set_cons_succ]
      refine takeL (i := 8) (v := ?_) rfl (by kernel_rfl) (by kernel_rfl) (by kernel_rfl) (by kernel_rfl) (by kernel_rfl) (fun _ _ _ h => h) (Or.inl ⟨by rfl, ?_⟩) (by assumption) ?_
      rotate_left
      · (intro w' hSw; (try dsimp only at hSw); go_simp; with_reducible rfl)
      try simp only [Act.put, List.setIfInBounds_toArray, List.set_cons_zero, List.set_cons_succ]
      refine takeL (i := 9) (v := ?_) rfl (by kernel_rfl) (by kernel_rfl) (by kernel_rfl) (by kernel_rfl) (by kernel_rfl) (fun _ _ _ h => h) (Or.inl ⟨by rfl, ?_⟩) (by assumption) ?_
      rotate_left
      · (intro w' hSw; (try dsimp only at hSw); go_simp; with_reducible rfl)
      try simp only [Act.put, List.setIfInBounds_toArray, List.set_cons_zero, List.set_cons_succ]
      refine takeL (i := 10) (v := ?_) rfl (by kernel_rfl) (by kernel_rfl) (by kernel_rfl) (by kernel_rfl) (by kernel_rfl) (fun _ _ _ h => h) (Or.inl ⟨by rfl, ?_⟩) (by assumption) ?_
      rotate_left
      · (intro w' hSw; (try dsimp only at hSw); go_simp; with_reducible rfl)
      try simp only [Act.put, List.setIfInBounds_toArray, List.set_cons_zero, List.set_cons_succ]
      refine oneL (i := 11) (by kernel_rfl) rfl (fun K hK => ?_)
      go_simp
      refine P.out.mono ?_
      rintro e w3 ⟨q2, m2, d2, rfl, ht⟩
      have T3 := Lib.hid ht
      clear ht P
      refine hK.out _ _ (fun h => absurd h (by decide)) ?_
      clear hK K hS
      try simp only [Act.put, List.setIfInBounds_toArray, List.set_cons_zero, List.set_cons_succ]
      refine laterT 19 _ _ _ _ (by kernel_rfl) ?_
      have hS : (fun _ : World => True) w3 := trivial
      refine takeL (i := 12) (v := ?_) rfl (by kernel_rfl) (by kernel_rfl) (by kernel_rfl) (by kernel_rfl) (by kernel_rfl) (fun _ _ _ h => h) (Or.inl ⟨by rfl, ?_⟩) (by assumption) ?_
      rotate_left
      · (intro w' hSw; (try dsimp only at hSw); go_simp; with_reducible rfl)
      try simp only [Act.put, List.setIfInBounds_toArray, List.set_cons_zero, List.set_cons_succ]
      refine takeL (i := 13) (v := ?_) rfl (by kernel_rfl) (by kernel_rfl) (by kernel_rfl) (by kernel_rfl) (by kernel_rfl) (fun _ _ _ h => h) (Or.inl ⟨by rfl, ?_⟩) (by assumption) ?_
      rotate_left
      · (intro w' hSw; (try dsimp only at hSw); go_simp; with_reducible rfl)
      try simp only [Act.put, List.setIfInBounds_toArray, List.set_cons_zero, List.set_cons_succ]
      refine takeL (i := 14) (v := ?_) rfl (by kernel_rfl) (by kernel_rfl) (by kernel_rfl) (by kernel_rfl) (by kernel_rfl) (fun _ _ _ h => h) (Or.inl ⟨by rfl, ?_⟩) (by assumption) ?_
      rotate_left
      · (intro w' hSw; (try dsimp only at hSw); go_simp; with_reducible rfl)
      try simp only [Act.put, List.setIfInBounds_toArray, List.set_cons_zero, List.set_cons_succ]
      refine takeL (i := 15) (v := ?_) rfl (by kernel_rfl) (by kernel_rfl) (by kernel_rfl) (by kernel_rfl) (by kernel_rfl) (fun _ _ _ h => h) (Or.inl ⟨by rfl, ?_⟩) (by assumption) ?_
      rotate_left
      · (intro w' hSw; (try dsimp only at hSw); go_simp; with_reducible rfl)
      try simp only [Act.put, List.setIfInBounds_toArray, List.set_cons_zero, List.set_cons_succ]
      refine takeL (i := 16) (v := ?_) rfl (by kernel_rfl) (by kernel_rfl) (by kernel_rfl) (by kernel_rfl) (by kernel_rfl) (fun _ _ _ h => h) (Or.inl ⟨by rfl, ?_⟩) (by assumption) ?_
      rotate_left
      · (intro w' hSw; (try dsimp only at hSw); go_simp; with_reducible rfl)
      try simp only [Act.put, List.setIfInBounds_toArray, List.set_cons_zero, List.set_cons_succ]
      refine takeL (i := 17) (v := ?_) rfl (by kernel_rfl) (by kernel_rfl) (by kernel_rfl) (by kernel_rfl) (by kernel_rfl) (fun _ _ _ h => h) (Or.inl ⟨by rfl, ?_⟩) (by assumption) ?_
      rotate_left
      · (intro w' hSw; (try dsimp only at hSw); go_simp; with_reducible rfl)
      try simp only [Act.put, List.setIfInBounds_toArray, List.set_cons_zero, List.set_cons_succ]
      refine takeL (i := 18) (v := ?_) rfl (by kernel_rfl) (by kernel_rfl) (by kernel_rfl) (by kernel_rfl) (by kernel_rfl) (fun _ _ _ h => h) (Or.inl ⟨by rfl, ?_⟩) (by assumption) ?_
      rotate_left
      · (intro w' hSw; (try dsimp only at hSw); go_simp; with_reducible rfl)
      try simp only [Act.put, List.setIfInBounds_toArray, List.set_cons_zero, List.set_cons_succ]
      refine doneO (by kernel_rfl) ?_ _
      clear hS
      go_wp2_with fail
      refine (two_orders T3.out).mono ?_
      rintro e w4 ⟨p3, n3, c3, rfl, hr3, hn3', ht⟩
      have T4 := Lib.hid ht
      have R3 := Lib.hid (two_same (c := c3) ht hr3 hn3')
      clear ht hr3 hn3' T3
      go_wp2_with fail
      refine R3.out.mono ?_
      rintro e w5 ⟨rfl, ht⟩
      have T5 := Lib.hid ht
      clear ht R3 T4
      have O1 := Lib.hid (bk_order T5.out.bk xa I1.out)
      have O2 := Lib.hid (fun W (t : Two I w W h l' q2 m2 d2 l') => two_order2 t xa)
      generalize (orderF l' xa).2 = oe at *
      generalize (orderF l' xa).1 = oo at *
      obtain ⟨oa, ob, oc, od⟩ := oo
      simp only [oval] at O1 O2
      have e1 : w5.cell? ⟨b, o + k * 3 + 1, none⟩ = some (.int .i64 xa) := E1.out _ T5.out.base
      go_wp2_with fail
      refine O1.out.mono ?_
      rintro e w6 ⟨rfl, hb⟩
      have C6 := Lib.hid (Lies.new w6 40 #[.int .i64 oa, .int .i64 ob, .int .i64 oc, .int .i64 od])
      have T6 := Lib.hid ((T5.out.below hb).below (alloc_below w6 (.cells #[.int .i64 oa, .int .i64 ob, .int .i64 oc, .int .i64 od] 40)))
      clear hb O1 T5 e1
      have e1 : (w6.alloc (.cells #[.int .i64 oa, .int .i64 ob, .int .i64 oc, .int .i64 od] 40)).cell? ⟨b, o + k * 3 + 1, none⟩ = some (.int .i64 xa) := E1.out _ T6.out.base
      have P2 := Lib.hid (O2.out _ T6.out)
      clear O2
      go_wp2_with fail
      refine P2.out.mono ?_
      rintro e w7 ⟨rfl, hb⟩
      have C7 := Lib.hid ((C6.out.below hb C6.out.lt).alloc (.cells #[.int .i64 oa, .int .i64 ob, .int .i64 oc, .int .i64 od] 40))
      have T7 := Lib.hid ((T6.out.below hb).below (alloc_below w7 (.cells #[.int .i64 oa, .int .i64 ob, .int .i64 oc, .int .i64 od] 40)))
      clear hb P2 T6 e1 C6
      have y0 : (w7.alloc (.cells #[.int .i64 oa, .int .i64 ob, .int .i64 oc, .int .i64 od] 40)).cell? ⟨w6.heap.size, 0, none⟩ = some (.int .i64 oa) := C7.out.cell 0
      have y1 : (w7.alloc (.cells #[.int .i64 oa, .int .i64 ob, .int .i64 oc, .int .i64 od] 40)).cell? ⟨w6.heap.size, 1, none⟩ = some (.int .i64 ob) := C7.out.cell 1
      have y2 : (w7.alloc (.cells #[.int .i64 oa, .int .i64 ob, .int .i64 oc, .int .i64 od] 40)).cell? ⟨w6.heap.size, 2, none⟩ = some (.int .i64 oc) := C7.out.cell 2
      have y3 : (w7.alloc (.cells #[.int .i64 oa, .int .i64 ob, .int .i64 oc, .int .i64 od] 40)).cell? ⟨w6.heap.size, 3, none⟩ = some (.int .i64 od) := C7.out.cell 3
      clear C7
      have z0 : (oa == oa) = true := by simp
      have z1 : (ob == ob) = true := by simp
      have z2 : (oc == oc) = true := by simp
      have z3 : (od == od) = true := by simp
      have z4 : (oe != oe) = false := by simp
      have z5 : (en != en) = false := by simp
      have z6 : (nn != nn) = false := by simp
      go_wp2
      go_roundw
      case rel => exact ⟨k + 1, l', q2, m2, d2, by omega, by go_num, rfl, T7⟩
      case measure => simp [RowKit.intOf]; omega
    · obtain rfl : k = n := by omega
      have B0 := Lib.hid TR.out.base
      clear TR
      go_wp2_with fail
      refine (I.nil_want 1 1 _).mono ?_
      rintro e w2 ⟨rfl, hb⟩
      have B2 := Lib.hid (B0.out.trans (hb.mono B0.out.size))
      clear hb B0
      go_wp2_with fail
      refine (I.nil_order 1 _).mono ?_
      rintro e w3 ⟨rfl, hb⟩
      have B3 := Lib.hid ((B2.out.trans (hb.mono B2.out.size)).alloc (B2.out.trans (hb.mono B2.out.size)).size (.cells #[.int .i64 0, .int .i64 0, .int .i64 0, .int .i64 0] 40))
      clear hb B2
      unfold oval od0
      go_wp2_with fail
      refine (AL.out _).mono ?_
      rintro e w4 ⟨rfl, hb⟩
      have B4 := Lib.hid (B3.out.trans (hb.mono B3.out.size))
      clear hb B3 AL
      go_wp2_with fail
      refine (I.nil_alloc 1 _).mono ?_
      rintro e w5 ⟨rfl, hb⟩
      have B5 := Lib.hid (B4.out.trans (hb.mono B4.out.size))
      clear hb B4
      go_wp2_with fail
      refine (I.nil_free 1 _).mono ?_
      rintro e w6 ⟨rfl, hb⟩
      have B6 := Lib.hid (B5.out.trans (hb.mono B5.out.size))
      clear hb B5
      go_wp2_with fail
      refine (I.nil_ship 1 _).mono ?_
      rintro e w7 ⟨rfl, hb⟩
      have B7 := Lib.hid (B6.out.trans (hb.mono B6.out.size))
      clear hb B6
      go_wp2_with fail
      refine (I.nil_orders _).mono ?_
      rintro e w8 ⟨⟨qq, cc, rfl⟩, hb⟩
      have B8 := Lib.hid (B7.out.trans (hb.mono B7.out.size))
      clear hb B7
      go_wp2_with fail
      go_ret
      exact ⟨rfl, B8.out⟩
end Or
end Go.Proofs.Ytpkniomjohjbiaa
