/- Walks over things that came in: their cells, whether they fit. -/
import Derived.Test.YtakkkdmbghdhgaaW9
namespace Go.Proofs.Ytakkkdmbghdhgaa
open Go.RowKit

/-- Four cells that read as a thing. -/
def Thg (w : World) (b o : Nat) (t : Oc.Th) : Prop :=
  w.cell? ⟨b, o, none⟩ = some (.int .u8 (t.kind : Int)) ∧ w.cell? ⟨b, o + 1, none⟩ = some (.int .u64 (t.n : Int)) ∧ w.cell? ⟨b, o + 2, none⟩ = some (.int .i64 t.size) ∧
  (∃ q c, w.cell? ⟨b, o + 3, none⟩ = some (.slice q t.run.length c) ∧ t.run.length ≤ c ∧ At w q t.run.length t.run) ∧
  t.kind < 256 ∧ t.n < 18446744073709551616 ∧ t.run.length ≤ 9223372036854775807
/-- A slice that reads as a list of things. -/
def Ths (w : World) (p : Option Addr) (n : Nat) (l : List Oc.Th) : Prop :=
  l.length = n ∧ (0 < n → ∃ b o, p = some ⟨b, o, none⟩ ∧ ∀ i, i < n → Thg w b (o + i * 4) (l.getD i Oc.t0))
theorem Thg.keep {w w' : World} {b o : Nat} {t : Oc.Th} (h : Thg w b o t) (hb : Below w.heap.size w w') : Thg w' b o t := by
  obtain ⟨h0, h1, h2, ⟨q, c, h3, hc, hA⟩, h4⟩ := h
  have hlt : b < w.heap.size := World.block_lt_of_cell? w _ h0
  exact ⟨(hb.cell (p := ⟨b, o, none⟩) hlt).trans h0, (hb.cell (p := ⟨b, o + 1, none⟩) hlt).trans h1, (hb.cell (p := ⟨b, o + 2, none⟩) hlt).trans h2, ⟨q, c, (hb.cell (p := ⟨b, o + 3, none⟩) hlt).trans h3, hc, hA.keep hb⟩, h4⟩

/-- Three cells of a thing, at a world that keeps what came in. -/
theorem thg_at {W wr : World} {p : Option Addr} {n : Nat} {l : List Oc.Th} (h : Ths W p n l) (hb : Below W.heap.size W wr) {k : Nat} (hk : k < n) :
    ∃ b o, p = some ⟨b, o, none⟩ ∧ b < W.heap.size ∧ Thg wr b (o + k * 4) (l.getD k Oc.t0) := by
  obtain ⟨b, o, rfl, hc⟩ := h.2 (by omega)
  exact ⟨b, o, rfl, World.block_lt_of_cell? W _ (hc k hk).1, (hc k hk).keep hb⟩

theorem src_far {W wr : World} {g : Nat} {v : Value} {s : Option (List Nat)} {q : Option Addr} {n : Nat} {l : List Nat} (h : PW wr W.heap.size g v s) (hA : At W q n l) (hn : 0 < n) : ∀ a, q = some a → ¬ Foot g v a.block := by
  intro a ha hf
  obtain ⟨b, o, e, hj⟩ := hA.2.2 hn
  rw [ha] at e
  injection e with e
  subst e
  have h1 := World.block_lt_of_cell? W _ (hj 0 hn)
  have h2 := (h.foot hf).1
  simp only at h1 h2
  omega
theorem u64_of_wrap (n : Nat) (h : n < 18446744073709551616) : IntKind.u64.wrap (wrap64 (n : Int)) = (n : Int) := by
  rw [IntKind.wrap_u64]
  unfold wrap64
  omega
theorem short_mono {s : Option (List Nat)} {a b : Nat} (h : short s a) (hab : a ≤ b) : short s b := fun l hl => Nat.le_trans (h l hl) hab
theorem PW.drew {w : World} {B g : Nat} {v : Value} {s : Option (List Nat)} (h : PW w B g v s) : PW w.drew B g v s := h.turn (S := fun _ => False) ((Turn.refl _ w).drew) (fun _ _ hf => hf)
theorem bit_of (n : Nat) : (if ((n : Int) % 2 == 1) = true then 1 else 0) = n % 2 := by
  by_cases h : n % 2 = 1
  · rw [if_pos (by simp; omega), h]
  · rw [if_neg (by simp; omega)]
    omega
set_option maxRecDepth 100000 in
set_option maxHeartbeats 1000000 in
theorem fits_any (p : Option Addr) (n c : Nat) (l : List Oc.Th) (w : World) (hn : n ≤ 9223372036854775807) (h : Ths w p n l) :
    Calls Try.prog 6 #[.slice p n c] w fun e w' => e = .returned (.bool (Oc.fitsB l)) ∧ w = w' := by
  have hlen := h.1
  by_cases h100 : 100 < n
  · have F : Hid (Oc.fitsB l = false) := Lib.hid (by simp only [Oc.fitsB, decide_eq_false_iff_not]; omega)
    have h100' : (100 : Int) < (n : Int) := by omega
    clear hlen h hn
    go_enter Try.func6, Try.ntmps6
    go_wp2
    go_ret
    exact ⟨by rw [F.out]; rfl, rfl⟩
  · have h100' : (n : Int) ≤ 100 := by omega
    have H := Lib.hid h
    have HL := Lib.hid hlen
    clear hlen h hn
    go_enter Try.func6, Try.ntmps6
    go_wp2
    go_loop [3, 4] (fun u i => ∃ k m : Nat, k ≤ n ∧ i = .int .i64 (k : Int) ∧ u = .int .i64 (m : Int) ∧ m ≤ 1000 ∧ Hid (m = Oc.tot (l.take k))) (fun _ i => n - (intOf i).toNat)
    case atStart => exact ⟨0, 0, Nat.zero_le _, rfl, rfl, Nat.zero_le _, Lib.hid (by simp [Oc.tot])⟩
    case round =>
      obtain ⟨k, m, hk, rfl, rfl, hm, HM⟩ := hrel
      have hm' : (m : Int) ≤ 1000 := by omega
      by_cases hlt : k < n
      · have T := Oc.tot_succ (l := l) (k := k) (by rw [HL.out]; exact hlt)
        rw [← HM.out] at T
        have TT := Oc.tot_take l (k + 1)
        obtain ⟨b, o, rfl, hc⟩ := H.out.2 (by omega)
        obtain ⟨_, _, _, ⟨q, d, c3, _, hA⟩, _, _, hr⟩ := hc k hlt
        have r0 : (k : Int) < (n : Int) := by omega
        clear hA hc
        generalize (l.getD k Oc.t0).run.length = r at *
        generalize hm3 : Oc.tot (l.take (k + 1)) = m2 at *
        have HM3 := Lib.hid hm3.symm
        clear hm3
        have T2 := Lib.hid T
        have hm2 : (m : Int) + (r : Int) = (m2 : Int) := by omega
        clear T
        by_cases h1 : 1000 < r
        · have h1' : (1000 : Int) < (r : Int) := by omega
          have F : Hid (Oc.fitsB l = false) := Lib.hid (by simp only [Oc.fitsB, decide_eq_false_iff_not]; have := T2.out; omega)
          clear hm2
          go_wp2
          go_ret
          exact ⟨by rw [F.out]; rfl, rfl⟩
        · have h1' : (r : Int) ≤ 1000 := by omega
          by_cases h2 : 1000 < m2
          · have h2' : (1000 : Int) < (m : Int) + (r : Int) := by omega
            have F : Hid (Oc.fitsB l = false) := Lib.hid (by simp only [Oc.fitsB, decide_eq_false_iff_not]; omega)
            clear hm2
            go_wp2
            go_ret
            exact ⟨by rw [F.out]; rfl, rfl⟩
          · have h2' : (m : Int) + (r : Int) ≤ 1000 := by omega
            have HM2 := Lib.hid hm2
            clear hm2 TT
            go_wp2
            go_round
            case rel => exact ⟨k + 1, m2, by omega, by go_num, by rw [HM2.out], by omega, HM3⟩
            case measure => simp [intOf]; omega
      · obtain rfl : k = n := by omega
        have F : Hid (Oc.fitsB l = true) := Lib.hid (by
          have := HM.out
          rw [List.take_of_length_le (by rw [HL.out]; exact Nat.le_refl _)] at this
          have := HL.out
          simp only [Oc.fitsB, decide_eq_true_eq]
          omega)
        go_wp2
        go_ret
        exact ⟨by rw [F.out]; rfl, rfl⟩
end Go.Proofs.Ytakkkdmbghdhgaa
