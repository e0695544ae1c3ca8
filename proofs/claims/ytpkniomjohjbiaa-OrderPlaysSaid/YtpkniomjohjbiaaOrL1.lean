/- The live question of layer 16: it returns true. Conditions: the contracts of package order. -/
import Derived.Test.YtpkniomjohjbiaaOrFace
import Derived.WalkSpells
import Derived.WalkKit
namespace Go.Proofs.Ytpkniomjohjbiaa
open Go.RowKit

namespace Or
set_option maxRecDepth 100000 in
set_option maxHeartbeats 8000000 in
theorem oalive_any (I : Face) (w : World) : Calls Try.prog 6 #[] w fun e w' => e = .returned (.bool true) ∧ Below w.heap.size w w' := by
  have i1 : I64 1 := by constructor <;> decide
  have i2 : I64 2 := by constructor <;> decide
  have i0 : I64 0 := by constructor <;> decide
  have i3 : I64 3 := by constructor <;> decide
  have i10 : I64 10 := by constructor <;> decide
  have C1 := Lib.hid (fun h W (hb : Bk I w W h ([] : List Od)) => show Calls Try.prog 12 #[.pointer (some ⟨h, 0, none⟩), .int .i64 3, .int .i64 10] W fun e w' => e = .returned (.tuple #[.int .i64 1, .int .i64 0]) ∧ Bk I w w' h ([⟨1, 3, 10, 0⟩] : List Od) from bk_want hb 3 10 i3 i10)
  have C2 := Lib.hid (fun h W (hb : Bk I w W h ([⟨1, 3, 10, 0⟩] : List Od)) => show Calls Try.prog 11 #[.pointer (some ⟨h, 0, none⟩), .int .i64 1] W fun e w' => e = .returned (.int .i64 8) ∧ Bk I w w' h ([⟨1, 3, 10, 0⟩] : List Od) from bk_ship hb 1 i1)
  have C3 := Lib.hid (fun h W (hb : Bk I w W h ([⟨1, 3, 10, 0⟩] : List Od)) => show Calls Try.prog 8 #[.pointer (some ⟨h, 0, none⟩), .int .i64 1] W fun e w' => e = .returned (.int .i64 0) ∧ Bk I w w' h ([⟨1, 3, 10, 1⟩] : List Od) from bk_alloc hb 1 i1)
  have C4 := Lib.hid (fun h W (hb : Bk I w W h ([⟨1, 3, 10, 1⟩] : List Od)) => show Calls Try.prog 10 #[.pointer (some ⟨h, 0, none⟩), .int .i64 1] W fun e w' => e = .returned (.int .i64 0) ∧ Bk I w w' h ([⟨1, 3, 10, 0⟩] : List Od) from bk_free hb 1 i1)
  have C5 := Lib.hid (fun h W (hb : Bk I w W h ([⟨1, 3, 10, 0⟩] : List Od)) => show Calls Try.prog 8 #[.pointer (some ⟨h, 0, none⟩), .int .i64 1] W fun e w' => e = .returned (.int .i64 0) ∧ Bk I w w' h ([⟨1, 3, 10, 1⟩] : List Od) from bk_alloc hb 1 i1)
  have C6 := Lib.hid (fun h W (hb : Bk I w W h ([⟨1, 3, 10, 1⟩] : List Od)) => show Calls Try.prog 11 #[.pointer (some ⟨h, 0, none⟩), .int .i64 1] W fun e w' => e = .returned (.int .i64 0) ∧ Bk I w w' h ([⟨1, 3, 10, 2⟩] : List Od) from bk_ship hb 1 i1)
  have C7 := Lib.hid (fun h W (hb : Bk I w W h ([⟨1, 3, 10, 2⟩] : List Od)) => show Calls Try.prog 10 #[.pointer (some ⟨h, 0, none⟩), .int .i64 1] W fun e w' => e = .returned (.int .i64 8) ∧ Bk I w w' h ([⟨1, 3, 10, 2⟩] : List Od) from bk_free hb 1 i1)
  have C8 := Lib.hid (fun h W (hb : Bk I w W h ([⟨1, 3, 10, 2⟩] : List Od)) => show Calls Try.prog 12 #[.pointer (some ⟨h, 0, none⟩), .int .i64 0, .int .i64 1] W fun e w' => e = .returned (.tuple #[.int .i64 0, .int .i64 1]) ∧ Bk I w w' h ([⟨1, 3, 10, 2⟩] : List Od) from bk_want hb 0 1 i0 i1)
  have C9 := Lib.hid (fun h W (hb : Bk I w W h ([⟨1, 3, 10, 2⟩] : List Od)) => show Calls Try.prog 16 #[.pointer (some ⟨h, 0, none⟩), .int .i64 1] W fun e w' => e = .returned (.tuple #[.agg #[.int .i64 1, .int .i64 3, .int .i64 10, .int .i64 2], .int .i64 0]) ∧ Below W.heap.size W w' from bk_order hb 1 i1)
  have C10 := Lib.hid (fun h W (hb : Bk I w W h ([⟨1, 3, 10, 2⟩] : List Od)) => show Calls Try.prog 11 #[.pointer (some ⟨h, 0, none⟩), .int .i64 2] W fun e w' => e = .returned (.int .i64 5) ∧ Bk I w w' h ([⟨1, 3, 10, 2⟩] : List Od) from bk_ship hb 2 i2)
  have C11 := Lib.hid (fun h W (hb : Bk I w W h ([⟨1, 3, 10, 2⟩] : List Od)) => bk_orders hb)
  clear i0 i1 i2 i3 i10
  go_enter Try.func6, Try.ntmps6
  go_wp2_with fail
  refine (I.new w).mono ?_
  rintro e w1 ⟨h, F, rfl, hd, hb⟩
  have K1 := Lib.hid (show Bk I w w1 h [] from ⟨good_nil, hb, F, hd⟩)
  clear hd hb
  go_wp2_with fail
  refine (C1.out h _ K1.out).mono ?_
  rintro e w2 ⟨rfl, hk⟩
  have K2 := Lib.hid hk
  clear hk C1 K1
  go_wp2_with fail
  refine (C2.out h _ K2.out).mono ?_
  rintro e w3 ⟨rfl, hk⟩
  have K3 := Lib.hid hk
  clear hk C2 K2
  go_wp2_with fail
  refine (C3.out h _ K3.out).mono ?_
  rintro e w4 ⟨rfl, hk⟩
  have K4 := Lib.hid hk
  clear hk C3 K3
  go_wp2_with fail
  refine (C4.out h _ K4.out).mono ?_
  rintro e w5 ⟨rfl, hk⟩
  have K5 := Lib.hid hk
  clear hk C4 K4
  go_wp2_with fail
  refine (C5.out h _ K5.out).mono ?_
  rintro e w6 ⟨rfl, hk⟩
  have K6 := Lib.hid hk
  clear hk C5 K5
  go_wp2_with fail
  refine (C6.out h _ K6.out).mono ?_
  rintro e w7 ⟨rfl, hk⟩
  have K7 := Lib.hid hk
  clear hk C6 K6
  go_wp2_with fail
  refine (C7.out h _ K7.out).mono ?_
  rintro e w8 ⟨rfl, hk⟩
  have K8 := Lib.hid hk
  clear hk C7 K7
  go_wp2_with fail
  refine (C8.out h _ K8.out).mono ?_
  rintro e w9 ⟨rfl, hk⟩
  have K9 := Lib.hid hk
  clear hk C8 K8
  go_wp2_with fail
  refine (C9.out h _ K9.out).mono ?_
  rintro e w10 ⟨rfl, hb⟩
  have K10 := Lib.hid ((K9.out.below hb).below (alloc_below w10 (.cells #[.int .i64 1, .int .i64 3, .int .i64 10, .int .i64 2] 40)))
  clear hb C9 K9
  go_wp2_with fail
  refine (C10.out h _ K10.out).mono ?_
  rintro e w11 ⟨rfl, hk⟩
  have K11 := Lib.hid hk
  clear hk C10 K10
  go_wp2_with fail
  refine (C11.out h _ K11.out).mono ?_
  rintro e w12 ⟨v, rfl, ho, hb⟩
  obtain ⟨q, d, rfl⟩ := own_slice ho
  have B12 := Lib.hid (K11.out.below hb).2.1
  clear ho hb C11 K11
  go_wp2
  go_ret
  exact ⟨rfl, B12.out⟩
end Or
end Go.Proofs.Ytpkniomjohjbiaa
