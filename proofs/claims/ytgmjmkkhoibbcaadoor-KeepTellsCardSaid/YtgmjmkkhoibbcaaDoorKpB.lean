/- Walks over package keep: what an event does to a lot, told by closures. No condition but those written. -/
import Derived.Test.YtgmjmkkhoibbcaaDoorKpA
import Derived.Test.YtgmjmkkhoibbcaaDoorRng
namespace Go.Proofs.YtgmjmkkhoibbcaaDoor
open Go.RowKit Lo

namespace Kp
/-- What leaves a lot as it is, if it is not over: a product, an exposure, each in a block. -/
def unl (a b : Nat) : Value := .func (.func 34) #[] #[.pointer (some ⟨a, 0, none⟩), .pointer (some ⟨b, 0, none⟩)]
/-- What gives a grant more: a grant, a product, an exposure, each in a block. -/
def wig (c a b : Nat) : Value := .func (.func 35) #[] #[.pointer (some ⟨c, 0, none⟩), .pointer (some ⟨a, 0, none⟩), .pointer (some ⟨b, 0, none⟩)]
/-- What takes a lot from its order. -/
def wio : Value := .func (.func 37) #[] #[]
/-- A lot in a block. -/
def At_ (W : World) (b : Nat) (y : Lv) : Prop := Lies W b 27 (lcells y).toArray
/-- A product in a block. -/
def Pt (W : World) (b : Nat) (p : Ms.Pd) : Prop := Lies W b 23 #[.int .i64 p.id, .int .i64 p.limit, .int .i64 p.budget]
/-- A number in a block. -/
def Nt (W : World) (b : Nat) (x : Int) : Prop := Lies W b 3 #[.int .i64 x]
theorem punl_any (p : Ms.Pd) (x : Int) (w : World) : Calls Tryd.prog 25 #[Ms.pval p, .int .i64 x] w fun e w' => e = .returned (unl w.heap.size (w.heap.size + 1)) ∧ Pt w' w.heap.size p ∧ Nt w' (w.heap.size + 1) x ∧ Below w.heap.size w w' := by
  obtain ⟨a, b, c⟩ := p
  obtain ⟨w1, hw1, B1, X1, Y1⟩ := boxes2 w #[.int .i64 a, .int .i64 b, .int .i64 c] #[.int .i64 x] 23 3
  have hmf : ∀ (fn : Fn) (first cap : Array Value) (w : World), (Instr.makeFunc fn first cap).run Tryd.prog w = .ok (.func fn first cap) w := fun _ _ _ _ => rfl
  unfold unl Pt Nt
  simp only [Ms.pval]
  go_enter Tryd.func25, Tryd.ntmps25
  go_wp2
  go_ret
  exact ⟨by simp, X1.out, Y1.out, B1.out⟩
theorem pwig_any (p : Ms.Pd) (x g : Int) (w : World) : Calls Tryd.prog 27 #[Ms.pval p, .int .i64 x, .int .i64 g] w fun e w' => e = .returned (wig (w.heap.size + 2) w.heap.size (w.heap.size + 1)) ∧ Pt w' w.heap.size p ∧ Nt w' (w.heap.size + 1) x ∧ Nt w' (w.heap.size + 2) g ∧ Below w.heap.size w w' := by
  obtain ⟨a, b, c⟩ := p
  obtain ⟨w1, hw1, B1, X1, Y1, Z1⟩ := boxes3 w #[.int .i64 a, .int .i64 b, .int .i64 c] #[.int .i64 x] #[.int .i64 g] 23 3 3
  have hmf : ∀ (fn : Fn) (first cap : Array Value) (w : World), (Instr.makeFunc fn first cap).run Tryd.prog w = .ok (.func fn first cap) w := fun _ _ _ _ => rfl
  unfold wig Pt Nt
  simp only [Ms.pval]
  go_enter Tryd.func27, Tryd.ntmps27
  go_wp2
  go_ret
  exact ⟨by simp, X1.out, Y1.out, Z1.out, B1.out⟩
theorem pwio_any (w : World) : Calls Tryd.prog 29 #[] w fun e w' => e = .returned wio ∧ w = w' := by
  unfold wio
  go_enter Tryd.func29, Tryd.ntmps29
  go_wp2
  go_ret
  exact ⟨rfl, rfl⟩
set_option maxRecDepth 100000 in
set_option maxHeartbeats 8000000 in
theorem dunl_any (p : Ms.Pd) (y : Lv) (x : Int) (l a b : Nat) (w : World) (hl : At_ w l y) (ha : Pt w a p) (hb : Nt w b x) : Calls Tryd.prog 34 #[.pointer (some ⟨l, 0, none⟩), .pointer (some ⟨a, 0, none⟩), .pointer (some ⟨b, 0, none⟩)] w fun e w' => e = .returned (.int .i64 (if overB p y.x x = true then 9 else 0)) ∧ Below w.heap.size w w' := by
  have CO := Lib.hid (fun W => pover_any p y x W)
  generalize overB p y.x x = o at *
  have HL := Lib.hid hl
  have HA := Lib.hid ha
  have HB := Lib.hid hb
  clear hl ha hb
  obtain ⟨ka, kb, kc⟩ := p
  obtain ⟨⟨i1, i2, i3, i4, i5, i6, i7, S⟩, q, n, d⟩ := y
  unfold At_ lcells at HL
  unfold Pt at HA
  unfold Nt at HB
  simp only [Ms.pval, lval] at CO HL HA ⊢
  go_enter Tryd.func34, Tryd.ntmps34
  go_wp2_with fail
  have y0 : w.drew.cell? ⟨l, 0, none⟩ = some (.int .i64 i1) := HL.out.cell 0
  have y1 : w.drew.cell? ⟨l, 1, none⟩ = some (.int .i64 i2) := HL.out.cell 1
  have y2 : w.drew.cell? ⟨l, 2, none⟩ = some (.int .i64 i3) := HL.out.cell 2
  have y3 : w.drew.cell? ⟨l, 3, none⟩ = some (.int .i64 i4) := HL.out.cell 3
  have y4 : w.drew.cell? ⟨l, 4, none⟩ = some (.int .i64 i5) := HL.out.cell 4
  have y5 : w.drew.cell? ⟨l, 5, none⟩ = some (.int .i64 i6) := HL.out.cell 5
  have y6 : w.drew.cell? ⟨l, 6, none⟩ = some (.int .i64 i7) := HL.out.cell 6
  have y7 : w.drew.cell? ⟨l, 7, none⟩ = some (.slice q n d) := HL.out.cell 7
  have x0 : w.drew.cell? ⟨a, 0, none⟩ = some (.int .i64 ka) := HA.out.cell 0
  have x1 : w.drew.cell? ⟨a, 1, none⟩ = some (.int .i64 kb) := HA.out.cell 1
  have x2 : w.drew.cell? ⟨a, 2, none⟩ = some (.int .i64 kc) := HA.out.cell 2
  have z0 : w.drew.cell? ⟨b, 0, none⟩ = some (.int .i64 x) := HB.out.cell 0
  refine region_T 5 (fun w' => w'.cell? ⟨l, 0, none⟩ = some (.int .i64 i1) ∧ w'.cell? ⟨l, 1, none⟩ = some (.int .i64 i2) ∧ w'.cell? ⟨l, 2, none⟩ = some (.int .i64 i3) ∧ w'.cell? ⟨l, 3, none⟩ = some (.int .i64 i4) ∧ w'.cell? ⟨l, 4, none⟩ = some (.int .i64 i5) ∧ w'.cell? ⟨l, 5, none⟩ = some (.int .i64 i6) ∧ w'.cell? ⟨l, 6, none⟩ = some (.int .i64 i7) ∧ w'.cell? ⟨l, 7, none⟩ = some (.slice q n d) ∧ w'.cell? ⟨a, 0, none⟩ = some (.int .i64 ka) ∧ w'.cell? ⟨a, 1, none⟩ = some (.int .i64 kb) ∧ w'.cell? ⟨a, 2, none⟩ = some (.int .i64 kc) ∧ w'.cell? ⟨b, 0, none⟩ = some (.int .i64 x)) (by kernel_rfl) ⟨y0, y1, y2, y3, y4, y5, y6, y7, x0, x1, x2, z0⟩ (fun hS => ?_)
  clear y0 y1 y2 y3 y4 y5 y6 y7 x0 x1 x2 z0
  refine takeL (i := 0) (v := ?_) rfl (by kernel_rfl) (by kernel_rfl) (by kernel_rfl) (by kernel_rfl) (by kernel_rfl) (fun _ _ _ h => h) (Or.inl ⟨by rfl, ?_⟩) (by assumption) ?_
  rotate_left
  · (intro w' hSw; (try dsimp only at hSw); go_simp; with_reducible rfl)
  try simp only [Act.put, List.setIfInBounds_toArray, List.set_cons_zero, List.set_cons_succ]
  refine takeL (i := 1) (v := ?_) rfl (by kernel_rfl) (by kernel_rfl) (by kernel_rfl) (by kernel_rfl) (by kernel_rfl) (fun _ _ _ h => h) (Or.inl ⟨by rfl, ?_⟩) (by assumption) ?_
  rotate_left
  · (intro w' hSw; (try dsimp only at hSw); go_simp; with_reducible rfl)
  try simp only [Act.put, List.setIfInBounds_toArray, List.set_cons_zero, List.set_cons_succ]
  refine takeL (i := 2) (v := ?_) rfl (by kernel_rfl) (by kernel_rfl) (by kernel_rfl) (by kernel_rfl) (by kernel_rfl) (fun _ _ _ h => h) (Or.inl ⟨by rfl, ?_⟩) (by assumption) ?_
  rotate_left
  · (intro w' hSw; (try dsimp only at hSw); go_simp; with_reducible rfl)
  try simp only [Act.put, List.setIfInBounds_toArray, List.set_cons_zero, List.set_cons_succ]
  refine takeL (i := 3) (v := ?_) rfl (by kernel_rfl) (by kernel_rfl) (by kernel_rfl) (by kernel_rfl) (by kernel_rfl) (fun _ _ _ h => h) (Or.inl ⟨by rfl, ?_⟩) (by assumption) ?_
  rotate_left
  · (intro w' hSw; (try dsimp only at hSw); go_simp; with_reducible rfl)
  try simp only [Act.put, List.setIfInBounds_toArray, List.set_cons_zero, List.set_cons_succ]
  refine takeL (i := 4) (v := ?_) rfl (by kernel_rfl) (by kernel_rfl) (by kernel_rfl) (by kernel_rfl) (by kernel_rfl) (fun _ _ _ h => h) (Or.inl ⟨by rfl, ?_⟩) (by assumption) ?_
  rotate_left
  · (intro w' hSw; (try dsimp only at hSw); go_simp; with_reducible rfl)
  try simp only [Act.put, List.setIfInBounds_toArray, List.set_cons_zero, List.set_cons_succ]
  refine oneL (i := 5) (by kernel_rfl) rfl (fun K hK => ?_)
  go_simp
  refine (CO.out _).mono ?_
  rintro e w2 ⟨rfl, hb⟩
  have B2 := Lib.hid (show Below w.heap.size w w2 from (show Below w.heap.size w w.drew from ⟨rfl, rfl, rfl, Nat.le_refl _, fun _ _ => rfl⟩).trans (hb.mono (Nat.le_refl _)))
  clear hb hS CO HL HA HB
  refine hK.out _ _ (fun h => absurd h (by decide)) ?_
  clear hK K
  try simp only [Act.put]
  refine laterT 6 _ _ _ _ (by kernel_rfl) ?_
  refine doneO (by kernel_rfl) ?_ _
  cases o with
  | true =>
    go_wp2
    go_ret
    exact ⟨rfl, B2.out⟩
  | false =>
    go_wp2
    go_ret
    exact ⟨rfl, B2.out⟩
set_option maxRecDepth 100000 in
set_option maxHeartbeats 8000000 in
theorem dwio_any (y : Lv) (l : Nat) (w : World) (hl : At_ w l y) : Calls Tryd.prog 37 #[.pointer (some ⟨l, 0, none⟩)] w fun e w' => e = .returned (.int .i64 0) ∧ At_ w' l { y with x := { y.x with order := 0 } } ∧ Turn (fun k => k = l) w w' := by
  have HL := Lib.hid hl
  clear hl
  obtain ⟨⟨i1, i2, i3, i4, i5, i6, i7, S⟩, q, n, d⟩ := y
  unfold At_ lcells at HL ⊢
  simp only at HL ⊢
  have y5 : w.cell? ⟨l, 5, none⟩ = some (.int .i64 i6) := HL.out.cell 5
  have f5 : w.frozen? ⟨l, 5, none⟩ = false := HL.out.frozen 5
  have HZ := Lib.hid (show Lies (w.setCell ⟨l, 5, none⟩ (.int .i64 0)) l 27 #[.int .i64 i1, .int .i64 i2, .int .i64 i3, .int .i64 i4, .int .i64 i5, .int .i64 0, .int .i64 i7, .slice q n d] from by simpa using HL.out.set_ 5 (.int .i64 0))
  have HT := Lib.hid ((Turn.refl (fun k => k = l) w).setCell (p := ⟨l, 5, none⟩) (.inl rfl) (.int .i64 0))
  clear HL
  go_enter Tryd.func37, Tryd.ntmps37
  go_wp2
  go_ret
  exact ⟨rfl, HZ.out, HT.out⟩
set_option maxRecDepth 100000 in
set_option maxHeartbeats 8000000 in
theorem dwig_any (p : Ms.Pd) (y : Lv) (x g : Int) (l a b c : Nat) (w : World) (hl : At_ w l y) (ha : Pt w a p) (hb : Nt w b x) (hc : Nt w c g) : Calls Tryd.prog 35 #[.pointer (some ⟨l, 0, none⟩), .pointer (some ⟨c, 0, none⟩), .pointer (some ⟨a, 0, none⟩), .pointer (some ⟨b, 0, none⟩)] w fun e w' =>
      e = .returned (.int .i64 (if overB p { y.x with grant := St.St.cap (St.St.fit y.x.grant + St.St.fit g) } x = true then 9 else 0)) ∧ At_ w' l { y with x := { y.x with grant := St.St.cap (St.St.fit y.x.grant + St.St.fit g) } } ∧ Turn (fun k => k = l) w w' := by
  have hla : l ≠ a := fun e => by
    have h1 := hl
    rw [e] at h1
    exact absurd (Lies.type h1 ha) (by decide)
  have hlb : l ≠ b := fun e => by
    have h1 := hl
    rw [e] at h1
    exact absurd (Lies.type h1 hb) (by decide)
  have CU := Lib.hid (fun W => punl_any p x W)
  have AD := Lib.hid (fun W => addTwo y.x.grant g W)
  generalize hgr : St.St.cap (St.St.fit y.x.grant + St.St.fit g) = gr at *
  clear hgr
  have CO := Lib.hid (fun (a' b' : Nat) W (h1 : At_ W l { y with x := { y.x with grant := gr } }) (h2 : Pt W a' p) (h3 : Nt W b' x) => dunl_any p { y with x := { y.x with grant := gr } } x l a' b' W h1 h2 h3)
  simp only at CO
  generalize (if overB p { y.x with grant := gr } x = true then 9 else 0 : Int) = en at *
  have HL := Lib.hid hl
  have HA := Lib.hid ha
  have HB := Lib.hid hb
  have HC := Lib.hid hc
  have NE := Lib.hid (And.intro hla hlb)
  clear hl ha hb hc hla hlb
  obtain ⟨ka, kb, kc⟩ := p
  obtain ⟨⟨i1, i2, i3, i4, i5, i6, i7, S⟩, q, n, d⟩ := y
  have HL0 := HL
  unfold At_ lcells at HL
  unfold Pt at HA
  unfold Nt at HB HC
  simp only [Ms.pval, unl] at CO HL HA AD CU
  simp only
  go_enter Tryd.func35, Tryd.ntmps35
  go_wp2_with fail
  have y4 : w.drew.cell? ⟨l, 4, none⟩ = some (.int .i64 i5) := HL.out.cell 4
  have fz : w.drew.frozen? ⟨l, 4, none⟩ = false := HL.out.frozen 4
  have z0 : w.drew.cell? ⟨c, 0, none⟩ = some (.int .i64 g) := HC.out.cell 0
  refine region_T 8 (fun w' => w'.cell? ⟨l, 4, none⟩ = some (.int .i64 i5) ∧ w'.cell? ⟨c, 0, none⟩ = some (.int .i64 g)) (by kernel_rfl) ⟨y4, z0⟩ (fun hS => ?_)
  clear y4 z0 fz
  refine takeL (i := 0) (v := ?_) rfl (by kernel_rfl) (by kernel_rfl) (by kernel_rfl) (by kernel_rfl) (by kernel_rfl) (fun _ _ _ h => h) (Or.inl ⟨by rfl, ?_⟩) (by assumption) ?_
  rotate_left
  · (intro w' hSw; (try dsimp only at hSw); go_simp; with_reducible rfl)
  try simp only [Act.put, List.setIfInBounds_toArray, List.set_cons_zero, List.set_cons_succ]
  refine takeL (i := 1) (v := ?_) rfl (by kernel_rfl) (by kernel_rfl) (by kernel_rfl) (by kernel_rfl) (by kernel_rfl) (fun _ _ _ h => h) (Or.inl ⟨by rfl, ?_⟩) (by assumption) ?_
  rotate_left
  · (intro w' hSw; (try dsimp only at hSw); go_simp; with_reducible rfl)
  try simp only [Act.put, List.setIfInBounds_toArray, List.set_cons_zero, List.set_cons_succ]
  refine takeL (i := 2) (v := ?_) rfl (by kernel_rfl) (by kernel_rfl) (by kernel_rfl) (by kernel_rfl) (by kernel_rfl) (fun _ _ _ h => h) (Or.inl ⟨by rfl, ?_⟩) (by assumption) ?_
  rotate_left
  · (intro w' hSw; (try dsimp only at hSw); go_simp; with_reducible rfl)
  try simp only [Act.put, List.setIfInBounds_toArray, List.set_cons_zero, List.set_cons_succ]
  refine takeL (i := 3) (v := ?_) rfl (by kernel_rfl) (by kernel_rfl) (by kernel_rfl) (by kernel_rfl) (by kernel_rfl) (fun _ _ _ h => h) (Or.inl ⟨by rfl, ?_⟩) (by assumption) ?_
  rotate_left
  · (intro w' hSw; (try dsimp only at hSw); go_simp; with_reducible rfl)
  try simp only [Act.put, List.setIfInBounds_toArray, List.set_cons_zero, List.set_cons_succ]
  refine takeL (i := 4) (v := ?_) rfl (by kernel_rfl) (by kernel_rfl) (by kernel_rfl) (by kernel_rfl) (by kernel_rfl) (fun _ _ _ h => h) (Or.inl ⟨by rfl, ?_⟩) (by assumption) ?_
  rotate_left
  · (intro w' hSw; (try dsimp only at hSw); go_simp; with_reducible rfl)
  try simp only [Act.put, List.setIfInBounds_toArray, List.set_cons_zero, List.set_cons_succ]
  refine takeL (i := 5) (v := ?_) rfl (by kernel_rfl) (by kernel_rfl) (by kernel_rfl) (by kernel_rfl) (by kernel_rfl) (fun _ _ _ h => h) (Or.inl ⟨by rfl, ?_⟩) (by assumption) ?_
  rotate_left
  · (intro w' hSw; (try dsimp only at hSw); go_simp; with_reducible rfl)
  try simp only [Act.put, List.setIfInBounds_toArray, List.set_cons_zero, List.set_cons_succ]
  refine oneL (i := 6) (by kernel_rfl) rfl (fun K hK => ?_)
  go_simp
  have HL2 := Lib.hid (show Lies (w.alloc (.cells #[.int .i64 i5, .int .i64 g] 3)).drew l 27 _ from (HL.out.alloc _).like rfl)
  have HC2 := Lib.hid (show Lies (w.alloc (.cells #[.int .i64 i5, .int .i64 g] 3)).drew c 3 _ from (HC.out.alloc _).like rfl)
  have y4 : (w.alloc (.cells #[.int .i64 i5, .int .i64 g] 3)).drew.cell? ⟨l, 4, none⟩ = some (.int .i64 i5) := HL2.out.cell 4
  have z0 : (w.alloc (.cells #[.int .i64 i5, .int .i64 g] 3)).drew.cell? ⟨c, 0, none⟩ = some (.int .i64 g) := HC2.out.cell 0
  clear hS HL2 HC2
  refine hK.out _ _ (fun _ => ⟨y4, z0⟩) ?_
  clear hK K
  try simp only [Act.put, List.setIfInBounds_toArray, List.set_cons_zero, List.set_cons_succ]
  clear y4 z0
  refine oneL (i := 7) (by kernel_rfl) rfl (fun K hK => ?_)
  go_simp
  refine (AD.out w.drew).mono ?_
  rintro e w2 ⟨rfl, hb⟩
  have B2 := Lib.hid (show Below w.heap.size w w2 from ⟨hb.os, hb.tape, hb.output, hb.size, hb.block⟩)
  have Y2 := Lib.hid (HL.out.below B2.out HL.out.lt)
  have C2 := Lib.hid (HC.out.below B2.out HC.out.lt)
  have A2 := Lib.hid (HA.out.below B2.out HA.out.lt)
  have X2 := Lib.hid (HB.out.below B2.out HB.out.lt)
  have y4 : w2.cell? ⟨l, 4, none⟩ = some (.int .i64 i5) := Y2.out.cell 4
  have f4 : w2.frozen? ⟨l, 4, none⟩ = false := Y2.out.frozen 4
  have z0 : w2.cell? ⟨c, 0, none⟩ = some (.int .i64 g) := C2.out.cell 0
  clear hb HL HC HA HB AD HL0
  refine hK.out _ _ (fun _ => ⟨y4, z0⟩) ?_
  clear hK K
  try simp only [Act.put, List.setIfInBounds_toArray, List.set_cons_zero, List.set_cons_succ]
  refine laterT 10 _ _ _ _ (by kernel_rfl) ?_
  have hS : (fun _ : World => True) w2 := trivial
  refine takeL (i := 8) (v := ?_) rfl (by kernel_rfl) (by kernel_rfl) (by kernel_rfl) (by kernel_rfl) (by kernel_rfl) (fun _ _ _ h => h) (Or.inl ⟨by rfl, ?_⟩) (by assumption) ?_
  rotate_left
  · (intro w' hSw; (try dsimp only at hSw); go_simp; with_reducible rfl)
  try simp only [Act.put, List.setIfInBounds_toArray, List.set_cons_zero, List.set_cons_succ]
  refine takeL (i := 9) (v := ?_) rfl (by kernel_rfl) (by kernel_rfl) (by kernel_rfl) (by kernel_rfl) (by kernel_rfl) (fun _ _ _ h => h) (Or.inl ⟨by rfl, ?_⟩) (by assumption) ?_
  rotate_left
  · (intro w' hSw; (try dsimp only at hSw); go_simp; with_reducible rfl)
  try simp only [Act.put, List.setIfInBounds_toArray, List.set_cons_zero, List.set_cons_succ]
  refine oneL (i := 10) (by kernel_rfl) rfl (fun K hK => ?_)
  go_simp
  have Y3 : Hid (Lies (w2.setCell ⟨l, 4, none⟩ (.int .i64 gr)) l 27 #[.int .i64 i1, .int .i64 i2, .int .i64 i3, .int .i64 i4, .int .i64 gr, .int .i64 i6, .int .i64 i7, .slice q n d]) := Lib.hid (by simpa using Y2.out.set_ 4 (.int .i64 gr))
  have A3 := Lib.hid (A2.out.like (Below.heap_setCell w2 ⟨l, 4, none⟩ (.int .i64 gr) _ (by have := NE.out.1; simp only; omega)))
  have X3 := Lib.hid (X2.out.like (Below.heap_setCell w2 ⟨l, 4, none⟩ (.int .i64 gr) _ (by have := NE.out.2; simp only; omega)))
  have T3 := Lib.hid ((Turn.of_below (S := fun k => k = l) B2.out).setCell (p := ⟨l, 4, none⟩) (.inl rfl) (.int .i64 gr))
  refine hK.out _ _ (fun h => absurd h (by decide)) ?_
  clear hK K hS Y2 A2 X2 C2 B2 y4 z0 f4
  try simp only [Act.put, List.setIfInBounds_toArray, List.set_cons_zero, List.set_cons_succ]
  generalize w2.setCell ⟨l, 4, none⟩ (.int .i64 gr) = w3 at *
  refine doneO (by kernel_rfl) ?_ _
  have x0 : w3.cell? ⟨a, 0, none⟩ = some (.int .i64 ka) := A3.out.cell 0
  have x1 : w3.cell? ⟨a, 1, none⟩ = some (.int .i64 kb) := A3.out.cell 1
  have x2 : w3.cell? ⟨a, 2, none⟩ = some (.int .i64 kc) := A3.out.cell 2
  have z0 : w3.cell? ⟨b, 0, none⟩ = some (.int .i64 x) := X3.out.cell 0
  go_wp2_with fail
  refine (CU.out _).mono ?_
  rintro e w4 ⟨rfl, hP, hN, hb⟩
  have Y4 := Lib.hid (Y3.out.below hb Y3.out.lt)
  have T4 := Lib.hid (T3.out.trans (Turn.of_below (S := fun k => k = l) hb) (fun _ hi => .inl hi))
  have CF := Lib.hid (CO.out _ _ w4 Y4.out hP hN)
  clear hb hP hN CU CO Y3 T3 A3 X3 x0 x1 x2 z0
  go_wp2_with fail
  refine CF.out.mono ?_
  rintro e w5 ⟨rfl, hb⟩
  have Y5 := Lib.hid (Y4.out.below hb Y4.out.lt)
  have T5 := Lib.hid (T4.out.trans (Turn.of_below (S := fun k => k = l) hb) (fun _ hi => .inl hi))
  clear hb CF Y4 T4
  go_wp2
  go_ret
  exact ⟨rfl, Y5.out, T5.out⟩
end Kp
end Go.Proofs.YtgmjmkkhoibbcaaDoor
