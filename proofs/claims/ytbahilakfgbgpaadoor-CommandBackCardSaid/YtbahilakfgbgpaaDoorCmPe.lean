/- Walks over package command: whether two are the same. Condition: the commands' bytes read as such. -/
import Derived.Test.YtbahilakfgbgpaaDoorCmPa
import Derived.Test.YtbahilakfgbgpaaDoorShelf
namespace Go.Proofs.YtbahilakfgbgpaaDoor
open Go.RowKit

namespace Cm
theorem bytes_in {w : World} {p : Option Addr} {n : Nat} {l : List Nat} (h : At w p n l) : Lib.BytesIn w p n (l.map fun x : Nat => (x : Int)) := fun hn => by
  obtain ⟨b, o, e, hc⟩ := h.2.2 hn
  refine ⟨b, o, e, fun i hi => ?_⟩
  rw [hc i hi]
  have hl : i < l.length := by rw [h.1]; exact hi
  simp [List.getD_eq_getElem?_getD, List.getElem?_eq_getElem hl]
theorem bytes_eq : ∀ (l l2 : List Nat), (∀ x ∈ l, x < 256) → (∀ x ∈ l2, x < 256) → (Lib.bytesOf (l.map fun x : Nat => (x : Int)) = Lib.bytesOf (l2.map fun x : Nat => (x : Int)) ↔ l = l2)
  | [], [], _, _ => by simp
  | [], _ :: _, _, _ => by simp [Lib.bytesOf]
  | _ :: _, [], _, _ => by simp [Lib.bytesOf]
  | x :: l, y :: l2, h, h2 => by
    have ih := bytes_eq l l2 (fun z hz => h z (List.mem_cons_of_mem _ hz)) (fun z hz => h2 z (List.mem_cons_of_mem _ hz))
    have hx := h x (List.mem_cons_self ..)
    have hy := h2 y (List.mem_cons_self ..)
    unfold Lib.bytesOf at *
    simp only [List.map_cons, List.cons.injEq, ih]
    have e : UInt8.ofNat (x : Int).toNat = UInt8.ofNat (y : Int).toNat ↔ x = y := by
      constructor
      · intro h3
        have h4 := congrArg UInt8.toNat h3
        simpa [Nat.mod_eq_of_lt hx, Nat.mod_eq_of_lt hy] using h4
      · intro h3
        rw [h3]
    rw [e]
theorem pequal_any (p q : Option Addr) (n m c d : Nat) (l l2 : List Nat) (w : World) (h : At w p n l) (h2 : At w q m l2) :
    Calls Tryd.prog 35 #[.slice p n c, .slice q m d] w fun e w' => e = .returned (.bool (decide (l = l2))) ∧ Below w.heap.size w w' := by
  refine (Tryd.bytes_Equal_all p q n c m d (l.map fun x : Nat => (x : Int)) (l2.map fun x : Nat => (x : Int)) w (by rw [List.length_map]; exact h.1) (by rw [List.length_map]; exact h2.1) (bytes_in h) (bytes_in h2)).mono fun e w' he => ?_
  obtain ⟨he, rfl⟩ := he
  refine ⟨?_, Below.refl _ _⟩
  rw [he]
  congr 2
  rw [Bool.eq_iff_iff, beq_iff_eq, decide_eq_true_iff]
  exact bytes_eq l l2 h.2.1 h2.2.1
set_option maxRecDepth 100000 in
set_option maxHeartbeats 16000000 in
theorem psame_any (y z : Cv) (w : World) (hy : Bt w y) (hz : Bt w z) : Calls Tryd.prog 16 #[cval y, cval z] w fun e w' => e = .returned (.bool (decide (y.x = z.x))) ∧ Below w.heap.size w w' := by
  have S := Lib.hid (fun W (hW : Below w.heap.size w W) => pequal_any y.p z.p y.n z.n y.c z.c y.x.bytes z.x.bytes W (hy.1.keep hW) (hz.1.keep hW))
  have MY := Lib.hid (fun W => pnumbers_any y W)
  have MZ := Lib.hid (fun W => pnumbers_any z W)
  clear hy hz
  obtain ⟨⟨ka, kb, kc, kd, ke, kf, kl⟩, kp, kn, kq⟩ := y
  obtain ⟨⟨ja, jb, jc, jd, je, jf, jl⟩, jp, jn, jq⟩ := z
  simp only [cval, five] at S MY MZ ⊢
  have E := Lib.hid (show decide ((⟨ka, kb, kc, kd, ke, kf, kl⟩ : Cm) = ⟨ja, jb, jc, jd, je, jf, jl⟩) = decide (ka = ja ∧ (kb = jb ∧ kc = jc ∧ kd = jd ∧ ke = je ∧ kf = jf) ∧ kl = jl) by rw [decide_eq_decide, ext7]; simp only [and_assoc])
  have Q := Lib.hid (fun W => eq5 W kb kc kd ke kf jb jc jd je jf)
  rw [E.out]
  clear E
  have B_0 := Lib.hid (Below.refl w.heap.size w)
  have B_1 := Lib.hid (B_0.out.alloc B_0.out.size (.cells #[.int .i64 ka, .int .i64 kb, .int .i64 kc, .int .i64 kd, .int .i64 ke, .int .i64 kf, .slice kp kn kq] 25))
  clear B_0
  have C_1 := Lib.hid (Lies.new w 25 #[.int .i64 ka, .int .i64 kb, .int .i64 kc, .int .i64 kd, .int .i64 ke, .int .i64 kf, .slice kp kn kq])
  have B_2 := Lib.hid (B_1.out.alloc B_1.out.size (.cells #[.int .i64 ja, .int .i64 jb, .int .i64 jc, .int .i64 jd, .int .i64 je, .int .i64 jf, .slice jp jn jq] 25))
  have C_2 := Lib.hid (C_1.out.alloc (.cells #[.int .i64 ja, .int .i64 jb, .int .i64 jc, .int .i64 jd, .int .i64 je, .int .i64 jf, .slice jp jn jq] 25))
  clear B_1 C_1
  have D_2 := Lib.hid (show Lies ((w.alloc (.cells #[.int .i64 ka, .int .i64 kb, .int .i64 kc, .int .i64 kd, .int .i64 ke, .int .i64 kf, .slice kp kn kq] 25)).alloc (.cells #[.int .i64 ja, .int .i64 jb, .int .i64 jc, .int .i64 jd, .int .i64 je, .int .i64 jf, .slice jp jn jq] 25)) (w.heap.size + 1) 25 #[.int .i64 ja, .int .i64 jb, .int .i64 jc, .int .i64 jd, .int .i64 je, .int .i64 jf, .slice jp jn jq] by simpa using Lies.new (w.alloc (.cells #[.int .i64 ka, .int .i64 kb, .int .i64 kc, .int .i64 kd, .int .i64 ke, .int .i64 kf, .slice kp kn kq] 25)) 25 #[.int .i64 ja, .int .i64 jb, .int .i64 jc, .int .i64 jd, .int .i64 je, .int .i64 jf, .slice jp jn jq])
  go_enter Tryd.func16, Tryd.ntmps16
  go_wp2_with fail
  obtain ⟨wd, hwd⟩ : ∃ wd, ((w.alloc (.cells #[.int .i64 ka, .int .i64 kb, .int .i64 kc, .int .i64 kd, .int .i64 ke, .int .i64 kf, .slice kp kn kq] 25)).alloc (.cells #[.int .i64 ja, .int .i64 jb, .int .i64 jc, .int .i64 jd, .int .i64 je, .int .i64 jf, .slice jp jn jq] 25)) = wd := ⟨_, rfl⟩
  rw [hwd] at B_2
  rw [hwd] at C_2
  rw [hwd] at D_2
  rw [hwd]
  clear hwd
  have hb : Below wd.heap.size wd wd.drew := ⟨rfl, rfl, rfl, Nat.le_refl _, fun _ _ => rfl⟩
  have B_3 := Lib.hid (B_2.out.trans (hb.mono B_2.out.size))
  have C_3 := Lib.hid (C_2.out.below hb C_2.out.lt)
  have D_3 := Lib.hid (D_2.out.below hb D_2.out.lt)
  clear B_2 C_2 D_2
  clear hb
  have c0_3 : wd.drew.cell? ⟨w.heap.size, 0, none⟩ = some (.int .i64 ka) := C_3.out.cell 0
  have c1_3 : wd.drew.cell? ⟨w.heap.size, 1, none⟩ = some (.int .i64 kb) := C_3.out.cell 1
  have c2_3 : wd.drew.cell? ⟨w.heap.size, 2, none⟩ = some (.int .i64 kc) := C_3.out.cell 2
  have c3_3 : wd.drew.cell? ⟨w.heap.size, 3, none⟩ = some (.int .i64 kd) := C_3.out.cell 3
  have c4_3 : wd.drew.cell? ⟨w.heap.size, 4, none⟩ = some (.int .i64 ke) := C_3.out.cell 4
  have c5_3 : wd.drew.cell? ⟨w.heap.size, 5, none⟩ = some (.int .i64 kf) := C_3.out.cell 5
  have c6_3 : wd.drew.cell? ⟨w.heap.size, 6, none⟩ = some (.slice kp kn kq) := C_3.out.cell 6
  have d0_3 : wd.drew.cell? ⟨(w.heap.size + 1), 0, none⟩ = some (.int .i64 ja) := D_3.out.cell 0
  have d1_3 : wd.drew.cell? ⟨(w.heap.size + 1), 1, none⟩ = some (.int .i64 jb) := D_3.out.cell 1
  have d2_3 : wd.drew.cell? ⟨(w.heap.size + 1), 2, none⟩ = some (.int .i64 jc) := D_3.out.cell 2
  have d3_3 : wd.drew.cell? ⟨(w.heap.size + 1), 3, none⟩ = some (.int .i64 jd) := D_3.out.cell 3
  have d4_3 : wd.drew.cell? ⟨(w.heap.size + 1), 4, none⟩ = some (.int .i64 je) := D_3.out.cell 4
  have d5_3 : wd.drew.cell? ⟨(w.heap.size + 1), 5, none⟩ = some (.int .i64 jf) := D_3.out.cell 5
  have d6_3 : wd.drew.cell? ⟨(w.heap.size + 1), 6, none⟩ = some (.slice jp jn jq) := D_3.out.cell 6
  refine region_T 20 (fun w' => w'.cell? ⟨w.heap.size, 0, none⟩ = some (.int .i64 ka) ∧ w'.cell? ⟨w.heap.size, 1, none⟩ = some (.int .i64 kb) ∧ w'.cell? ⟨w.heap.size, 2, none⟩ = some (.int .i64 kc) ∧ w'.cell? ⟨w.heap.size, 3, none⟩ = some (.int .i64 kd) ∧ w'.cell? ⟨w.heap.size, 4, none⟩ = some (.int .i64 ke) ∧ w'.cell? ⟨w.heap.size, 5, none⟩ = some (.int .i64 kf) ∧ w'.cell? ⟨w.heap.size, 6, none⟩ = some (.slice kp kn kq) ∧ w'.cell? ⟨(w.heap.size + 1), 0, none⟩ = some (.int .i64 ja) ∧ w'.cell? ⟨(w.heap.size + 1), 1, none⟩ = some (.int .i64 jb) ∧ w'.cell? ⟨(w.heap.size + 1), 2, none⟩ = some (.int .i64 jc) ∧ w'.cell? ⟨(w.heap.size + 1), 3, none⟩ = some (.int .i64 jd) ∧ w'.cell? ⟨(w.heap.size + 1), 4, none⟩ = some (.int .i64 je) ∧ w'.cell? ⟨(w.heap.size + 1), 5, none⟩ = some (.int .i64 jf) ∧ w'.cell? ⟨(w.heap.size + 1), 6, none⟩ = some (.slice jp jn jq)) (by kernel_rfl) ⟨c0_3, c1_3, c2_3, c3_3, c4_3, c5_3, c6_3, d0_3, d1_3, d2_3, d3_3, d4_3, d5_3, d6_3⟩ (fun hS => ?_)
  clear c0_3 c1_3 c2_3 c3_3 c4_3 c5_3 c6_3 d0_3 d1_3 d2_3 d3_3 d4_3 d5_3 d6_3
  by_cases h0 : ka = ja
  · have t0 : (ka == ja) = true := by simpa using h0
    have H0 := Lib.hid h0
    clear h0
    refine tk 0 ?_
    refine tk 1 ?_
    refine tk 2 ?_
    refine tk 3 ?_
    refine tk 4 ?_
    refine tk 5 ?_
    refine tk 6 ?_
    refine tk 8 ?_
    refine oneL (i := 7) (by kernel_rfl) rfl (fun K hK => ?_)
    go_simp
    clear hS
    refine (MY.out _).mono ?_
    rintro e w4 ⟨rfl, hb⟩
    have B_4 := Lib.hid (B_3.out.trans (hb.mono B_3.out.size))
    have C_4 := Lib.hid (C_3.out.below hb C_3.out.lt)
    have D_4 := Lib.hid (D_3.out.below hb D_3.out.lt)
    clear B_3 C_3 D_3
    clear hb MY
    have c0_4 : w4.cell? ⟨w.heap.size, 0, none⟩ = some (.int .i64 ka) := C_4.out.cell 0
    have c1_4 : w4.cell? ⟨w.heap.size, 1, none⟩ = some (.int .i64 kb) := C_4.out.cell 1
    have c2_4 : w4.cell? ⟨w.heap.size, 2, none⟩ = some (.int .i64 kc) := C_4.out.cell 2
    have c3_4 : w4.cell? ⟨w.heap.size, 3, none⟩ = some (.int .i64 kd) := C_4.out.cell 3
    have c4_4 : w4.cell? ⟨w.heap.size, 4, none⟩ = some (.int .i64 ke) := C_4.out.cell 4
    have c5_4 : w4.cell? ⟨w.heap.size, 5, none⟩ = some (.int .i64 kf) := C_4.out.cell 5
    have c6_4 : w4.cell? ⟨w.heap.size, 6, none⟩ = some (.slice kp kn kq) := C_4.out.cell 6
    have d0_4 : w4.cell? ⟨(w.heap.size + 1), 0, none⟩ = some (.int .i64 ja) := D_4.out.cell 0
    have d1_4 : w4.cell? ⟨(w.heap.size + 1), 1, none⟩ = some (.int .i64 jb) := D_4.out.cell 1
    have d2_4 : w4.cell? ⟨(w.heap.size + 1), 2, none⟩ = some (.int .i64 jc) := D_4.out.cell 2
    have d3_4 : w4.cell? ⟨(w.heap.size + 1), 3, none⟩ = some (.int .i64 jd) := D_4.out.cell 3
    have d4_4 : w4.cell? ⟨(w.heap.size + 1), 4, none⟩ = some (.int .i64 je) := D_4.out.cell 4
    have d5_4 : w4.cell? ⟨(w.heap.size + 1), 5, none⟩ = some (.int .i64 jf) := D_4.out.cell 5
    have d6_4 : w4.cell? ⟨(w.heap.size + 1), 6, none⟩ = some (.slice jp jn jq) := D_4.out.cell 6
    refine hK.out _ _ (fun _ => ⟨c0_4, c1_4, c2_4, c3_4, c4_4, c5_4, c6_4, d0_4, d1_4, d2_4, d3_4, d4_4, d5_4, d6_4⟩) ?_
    clear hK K
    try simp only [Act.put, List.setIfInBounds_toArray, List.set_cons_zero, List.set_cons_succ]
    have hS := And.intro c0_4 (And.intro c1_4 (And.intro c2_4 (And.intro c3_4 (And.intro c4_4 (And.intro c5_4 (And.intro c6_4 (And.intro d0_4 (And.intro d1_4 (And.intro d2_4 (And.intro d3_4 (And.intro d4_4 (And.intro d5_4 (d6_4)))))))))))))
    clear c0_4 c1_4 c2_4 c3_4 c4_4 c5_4 c6_4 d0_4 d1_4 d2_4 d3_4 d4_4 d5_4 d6_4
    refine oneL (i := 9) (by kernel_rfl) rfl (fun K hK => ?_)
    go_simp
    clear hS
    refine (MZ.out _).mono ?_
    rintro e w5 ⟨rfl, hb⟩
    have B_5 := Lib.hid (B_4.out.trans (hb.mono B_4.out.size))
    have C_5 := Lib.hid (C_4.out.below hb C_4.out.lt)
    have D_5 := Lib.hid (D_4.out.below hb D_4.out.lt)
    clear B_4 C_4 D_4
    clear hb MZ
    have c0_5 : w5.cell? ⟨w.heap.size, 0, none⟩ = some (.int .i64 ka) := C_5.out.cell 0
    have c1_5 : w5.cell? ⟨w.heap.size, 1, none⟩ = some (.int .i64 kb) := C_5.out.cell 1
    have c2_5 : w5.cell? ⟨w.heap.size, 2, none⟩ = some (.int .i64 kc) := C_5.out.cell 2
    have c3_5 : w5.cell? ⟨w.heap.size, 3, none⟩ = some (.int .i64 kd) := C_5.out.cell 3
    have c4_5 : w5.cell? ⟨w.heap.size, 4, none⟩ = some (.int .i64 ke) := C_5.out.cell 4
    have c5_5 : w5.cell? ⟨w.heap.size, 5, none⟩ = some (.int .i64 kf) := C_5.out.cell 5
    have c6_5 : w5.cell? ⟨w.heap.size, 6, none⟩ = some (.slice kp kn kq) := C_5.out.cell 6
    have d0_5 : w5.cell? ⟨(w.heap.size + 1), 0, none⟩ = some (.int .i64 ja) := D_5.out.cell 0
    have d1_5 : w5.cell? ⟨(w.heap.size + 1), 1, none⟩ = some (.int .i64 jb) := D_5.out.cell 1
    have d2_5 : w5.cell? ⟨(w.heap.size + 1), 2, none⟩ = some (.int .i64 jc) := D_5.out.cell 2
    have d3_5 : w5.cell? ⟨(w.heap.size + 1), 3, none⟩ = some (.int .i64 jd) := D_5.out.cell 3
    have d4_5 : w5.cell? ⟨(w.heap.size + 1), 4, none⟩ = some (.int .i64 je) := D_5.out.cell 4
    have d5_5 : w5.cell? ⟨(w.heap.size + 1), 5, none⟩ = some (.int .i64 jf) := D_5.out.cell 5
    have d6_5 : w5.cell? ⟨(w.heap.size + 1), 6, none⟩ = some (.slice jp jn jq) := D_5.out.cell 6
    refine hK.out _ _ (fun _ => ⟨c0_5, c1_5, c2_5, c3_5, c4_5, c5_5, c6_5, d0_5, d1_5, d2_5, d3_5, d4_5, d5_5, d6_5⟩) ?_
    clear hK K
    try simp only [Act.put, List.setIfInBounds_toArray, List.set_cons_zero, List.set_cons_succ]
    have hS := And.intro c0_5 (And.intro c1_5 (And.intro c2_5 (And.intro c3_5 (And.intro c4_5 (And.intro c5_5 (And.intro c6_5 (And.intro d0_5 (And.intro d1_5 (And.intro d2_5 (And.intro d3_5 (And.intro d4_5 (And.intro d5_5 (d6_5)))))))))))))
    clear c0_5 c1_5 c2_5 c3_5 c4_5 c5_5 c6_5 d0_5 d1_5 d2_5 d3_5 d4_5 d5_5 d6_5
    have q0 := fun W => Q.out W
    by_cases h1 : kb = jb ∧ kc = jc ∧ kd = jd ∧ ke = je ∧ kf = jf
    · have H1 := Lib.hid h1
      rw [show decide (kb = jb ∧ kc = jc ∧ kd = jd ∧ ke = je ∧ kf = jf) = true by simpa using h1] at q0
      clear h1
      refine tk 10 ?_
      refine tk 11 ?_
      refine tk 12 ?_
      refine tk 13 ?_
      refine tk 14 ?_
      refine tk 15 ?_
      refine tk 16 ?_
      refine oneL (i := 17) (by kernel_rfl) rfl (fun K hK => ?_)
      go_simp
      clear hS
      refine (S.out _ B_5.out).mono ?_
      rintro e w6 ⟨rfl, hb⟩
      have B_6 := Lib.hid (B_5.out.trans (hb.mono B_5.out.size))
      have C_6 := Lib.hid (C_5.out.below hb C_5.out.lt)
      have D_6 := Lib.hid (D_5.out.below hb D_5.out.lt)
      clear B_5 C_5 D_5
      clear hb S
      have c0_6 : w6.cell? ⟨w.heap.size, 0, none⟩ = some (.int .i64 ka) := C_6.out.cell 0
      have c1_6 : w6.cell? ⟨w.heap.size, 1, none⟩ = some (.int .i64 kb) := C_6.out.cell 1
      have c2_6 : w6.cell? ⟨w.heap.size, 2, none⟩ = some (.int .i64 kc) := C_6.out.cell 2
      have c3_6 : w6.cell? ⟨w.heap.size, 3, none⟩ = some (.int .i64 kd) := C_6.out.cell 3
      have c4_6 : w6.cell? ⟨w.heap.size, 4, none⟩ = some (.int .i64 ke) := C_6.out.cell 4
      have c5_6 : w6.cell? ⟨w.heap.size, 5, none⟩ = some (.int .i64 kf) := C_6.out.cell 5
      have c6_6 : w6.cell? ⟨w.heap.size, 6, none⟩ = some (.slice kp kn kq) := C_6.out.cell 6
      have d0_6 : w6.cell? ⟨(w.heap.size + 1), 0, none⟩ = some (.int .i64 ja) := D_6.out.cell 0
      have d1_6 : w6.cell? ⟨(w.heap.size + 1), 1, none⟩ = some (.int .i64 jb) := D_6.out.cell 1
      have d2_6 : w6.cell? ⟨(w.heap.size + 1), 2, none⟩ = some (.int .i64 jc) := D_6.out.cell 2
      have d3_6 : w6.cell? ⟨(w.heap.size + 1), 3, none⟩ = some (.int .i64 jd) := D_6.out.cell 3
      have d4_6 : w6.cell? ⟨(w.heap.size + 1), 4, none⟩ = some (.int .i64 je) := D_6.out.cell 4
      have d5_6 : w6.cell? ⟨(w.heap.size + 1), 5, none⟩ = some (.int .i64 jf) := D_6.out.cell 5
      have d6_6 : w6.cell? ⟨(w.heap.size + 1), 6, none⟩ = some (.slice jp jn jq) := D_6.out.cell 6
      refine hK.out _ _ (fun _ => ⟨c0_6, c1_6, c2_6, c3_6, c4_6, c5_6, c6_6, d0_6, d1_6, d2_6, d3_6, d4_6, d5_6, d6_6⟩) ?_
      clear hK K
      try simp only [Act.put, List.setIfInBounds_toArray, List.set_cons_zero, List.set_cons_succ]
      have hS := And.intro c0_6 (And.intro c1_6 (And.intro c2_6 (And.intro c3_6 (And.intro c4_6 (And.intro c5_6 (And.intro c6_6 (And.intro d0_6 (And.intro d1_6 (And.intro d2_6 (And.intro d3_6 (And.intro d4_6 (And.intro d5_6 (d6_6)))))))))))))
      clear c0_6 c1_6 c2_6 c3_6 c4_6 c5_6 c6_6 d0_6 d1_6 d2_6 d3_6 d4_6 d5_6 d6_6
      refine tk 18 ?_
      refine tk 19 ?_
      refine doneO (by kernel_rfl) ?_ _
      clear hS
      go_wp2
      go_ret
      exact ⟨by simp [H0.out, H1.out], B_6.out⟩
    · have H1 := Lib.hid h1
      rw [show decide (kb = jb ∧ kc = jc ∧ kd = jd ∧ ke = je ∧ kf = jf) = false by simpa using h1] at q0
      clear h1
      refine tk 10 ?_
      refine tk 11 ?_
      refine tk 12 ?_
      refine takeL (i := 13) (v := undef) rfl (by kernel_rfl) (by kernel_rfl) (by kernel_rfl) (by kernel_rfl) (by kernel_rfl) (fun _ _ _ h => h) (Or.inr ⟨by rfl, rfl⟩) (by assumption) ?_
      try simp only [Act.put, List.setIfInBounds_toArray, List.set_cons_zero, List.set_cons_succ]
      refine takeL (i := 14) (v := undef) rfl (by kernel_rfl) (by kernel_rfl) (by kernel_rfl) (by kernel_rfl) (by kernel_rfl) (fun _ _ _ h => h) (Or.inr ⟨by rfl, rfl⟩) (by assumption) ?_
      try simp only [Act.put, List.setIfInBounds_toArray, List.set_cons_zero, List.set_cons_succ]
      refine takeL (i := 15) (v := undef) rfl (by kernel_rfl) (by kernel_rfl) (by kernel_rfl) (by kernel_rfl) (by kernel_rfl) (fun _ _ _ h => h) (Or.inr ⟨by rfl, rfl⟩) (by assumption) ?_
      try simp only [Act.put, List.setIfInBounds_toArray, List.set_cons_zero, List.set_cons_succ]
      refine takeL (i := 16) (v := undef) rfl (by kernel_rfl) (by kernel_rfl) (by kernel_rfl) (by kernel_rfl) (by kernel_rfl) (fun _ _ _ h => h) (Or.inr ⟨by rfl, rfl⟩) (by assumption) ?_
      try simp only [Act.put, List.setIfInBounds_toArray, List.set_cons_zero, List.set_cons_succ]
      refine takeL (i := 17) (v := undef) rfl (by kernel_rfl) (by kernel_rfl) (by kernel_rfl) (by kernel_rfl) (by kernel_rfl) (fun _ _ _ h => h) (Or.inr ⟨by rfl, rfl⟩) (by assumption) ?_
      try simp only [Act.put, List.setIfInBounds_toArray, List.set_cons_zero, List.set_cons_succ]
      refine tk 18 ?_
      refine tk 19 ?_
      refine doneO (by kernel_rfl) ?_ _
      clear hS
      go_wp2
      go_ret
      exact ⟨by simp [H1.out], B_5.out⟩
  · have t0 : (ka == ja) = false := by simpa using h0
    have H0 := Lib.hid h0
    clear h0
    refine tk 0 ?_
    refine tk 1 ?_
    refine tk 2 ?_
    refine tk 3 ?_
    refine tk 4 ?_
    refine tk 5 ?_
    refine takeL (i := 6) (v := undef) rfl (by kernel_rfl) (by kernel_rfl) (by kernel_rfl) (by kernel_rfl) (by kernel_rfl) (fun _ _ _ h => h) (Or.inr ⟨by rfl, rfl⟩) (by assumption) ?_
    try simp only [Act.put, List.setIfInBounds_toArray, List.set_cons_zero, List.set_cons_succ]
    refine takeL (i := 7) (v := undef) rfl (by kernel_rfl) (by kernel_rfl) (by kernel_rfl) (by kernel_rfl) (by kernel_rfl) (fun _ _ _ h => h) (Or.inr ⟨by rfl, rfl⟩) (by assumption) ?_
    try simp only [Act.put, List.setIfInBounds_toArray, List.set_cons_zero, List.set_cons_succ]
    refine takeL (i := 8) (v := undef) rfl (by kernel_rfl) (by kernel_rfl) (by kernel_rfl) (by kernel_rfl) (by kernel_rfl) (fun _ _ _ h => h) (Or.inr ⟨by rfl, rfl⟩) (by assumption) ?_
    try simp only [Act.put, List.setIfInBounds_toArray, List.set_cons_zero, List.set_cons_succ]
    refine takeL (i := 9) (v := undef) rfl (by kernel_rfl) (by kernel_rfl) (by kernel_rfl) (by kernel_rfl) (by kernel_rfl) (fun _ _ _ h => h) (Or.inr ⟨by rfl, rfl⟩) (by assumption) ?_
    try simp only [Act.put, List.setIfInBounds_toArray, List.set_cons_zero, List.set_cons_succ]
    refine takeL (i := 10) (v := undef) rfl (by kernel_rfl) (by kernel_rfl) (by kernel_rfl) (by kernel_rfl) (by kernel_rfl) (fun _ _ _ h => h) (Or.inr ⟨by rfl, rfl⟩) (by assumption) ?_
    try simp only [Act.put, List.setIfInBounds_toArray, List.set_cons_zero, List.set_cons_succ]
    refine tk 11 ?_
    refine tk 12 ?_
    refine takeL (i := 13) (v := undef) rfl (by kernel_rfl) (by kernel_rfl) (by kernel_rfl) (by kernel_rfl) (by kernel_rfl) (fun _ _ _ h => h) (Or.inr ⟨by rfl, rfl⟩) (by assumption) ?_
    try simp only [Act.put, List.setIfInBounds_toArray, List.set_cons_zero, List.set_cons_succ]
    refine takeL (i := 14) (v := undef) rfl (by kernel_rfl) (by kernel_rfl) (by kernel_rfl) (by kernel_rfl) (by kernel_rfl) (fun _ _ _ h => h) (Or.inr ⟨by rfl, rfl⟩) (by assumption) ?_
    try simp only [Act.put, List.setIfInBounds_toArray, List.set_cons_zero, List.set_cons_succ]
    refine takeL (i := 15) (v := undef) rfl (by kernel_rfl) (by kernel_rfl) (by kernel_rfl) (by kernel_rfl) (by kernel_rfl) (fun _ _ _ h => h) (Or.inr ⟨by rfl, rfl⟩) (by assumption) ?_
    try simp only [Act.put, List.setIfInBounds_toArray, List.set_cons_zero, List.set_cons_succ]
    refine takeL (i := 16) (v := undef) rfl (by kernel_rfl) (by kernel_rfl) (by kernel_rfl) (by kernel_rfl) (by kernel_rfl) (fun _ _ _ h => h) (Or.inr ⟨by rfl, rfl⟩) (by assumption) ?_
    try simp only [Act.put, List.setIfInBounds_toArray, List.set_cons_zero, List.set_cons_succ]
    refine takeL (i := 17) (v := undef) rfl (by kernel_rfl) (by kernel_rfl) (by kernel_rfl) (by kernel_rfl) (by kernel_rfl) (fun _ _ _ h => h) (Or.inr ⟨by rfl, rfl⟩) (by assumption) ?_
    try simp only [Act.put, List.setIfInBounds_toArray, List.set_cons_zero, List.set_cons_succ]
    refine tk 18 ?_
    refine tk 19 ?_
    refine doneO (by kernel_rfl) ?_ _
    clear hS
    go_wp2
    go_ret
    exact ⟨by simp [H0.out], B_3.out⟩
end Cm
end Go.Proofs.YtbahilakfgbgpaaDoor
