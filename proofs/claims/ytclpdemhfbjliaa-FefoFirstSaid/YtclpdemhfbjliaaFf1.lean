/- Walks over the document's answer of layer 15: the one that goes first. No condition but those written. -/
import Derived.Test.YtclpdemhfbjliaaFfNum
import Derived.Test.YtclpdemhfbjliaaLoMem
import Derived.Test.YtclpdemhfbjliaaMem
import Derived.Deep.QuietTactic
import Derived.BigQuiet
namespace Go.Proofs.Ytclpdemhfbjliaa
open Go.RowKit Lo

namespace Ff
/-- A lot's ID and expiry, product and units, where they lie. -/
theorem lv_at {w : World} {p : Option Addr} {n : Nat} {L : List Lv} (h : Rw 8 lcells w p n L) {k : Nat} {y : Lv} (hy : L[k]? = some y) :
    ∃ b o, p = some ⟨b, o, none⟩ ∧ w.cell? ⟨b, o + k * 8, none⟩ = some (.int .i64 y.x.id) ∧ w.cell? ⟨b, o + k * 8 + 1, none⟩ = some (.int .i64 y.x.product) ∧ w.cell? ⟨b, o + k * 8 + 2, none⟩ = some (.int .i64 y.x.units) ∧ w.cell? ⟨b, o + k * 8 + 3, none⟩ = some (.int .i64 y.x.expiry) := by
  have hk : k < L.length := (List.getElem?_eq_some_iff.1 hy).1
  obtain ⟨b, o, e, hc⟩ := h.2 (by rw [← h.1]; omega)
  exact ⟨b, o, e, hc k y hy 0 (by decide), hc k y hy 1 (by decide), hc k y hy 2 (by decide), hc k y hy 3 (by decide)⟩
def bcells (b : Bool) : List Value := [.bool b]
theorem bcells_len (b : Bool) : (bcells b).length = 1 := rfl
/-- Whether one is taken, where it lies. -/
theorem tk_at {w : World} {B n d : Nat} {q : Option Addr} {tk : List Bool} (h : w.ownsRow B 4 1 (.slice q n d) n (tk.flatMap bcells)) (hl : tk.length = n) {k : Nat} {t : Bool} (ht : tk[k]? = some t) :
    ∃ g, q = some ⟨g, 0, none⟩ ∧ B ≤ g ∧ g < w.heap.size ∧ w.cell? ⟨g, k, none⟩ = some (.bool t) := by
  have hk : k < n := by rw [← hl]; exact (List.getElem?_eq_some_iff.1 ht).1
  obtain ⟨g, c', e, h1, h2, _⟩ := own_some h (by omega)
  injection e with e1 e2 e3
  subst e1 e3
  have k1 := row_cell bcells_len h hl ht (i := 0) (by decide)
  rw [Nat.mul_one, Nat.add_zero] at k1
  exact ⟨g, rfl, h1, h2, k1⟩
theorem lts_at {L : List Lv} {k : Nat} {y : Lv} (h : L[k]? = some y) : (lts L)[k]? = some y.x := by
  unfold lts
  rw [List.getElem?_map, h]
  rfl
/-- What the search has told. -/
def FirstEnd (w : World) (l : List Lt) (tk : List Bool) (e : Ending) (w' : World) : Prop := ∃ b : Int, e = .returned (.int .i64 b) ∧ Upto l tk l.length b ∧ Below w.heap.size w w'
set_option maxRecDepth 100000 in
set_option maxHeartbeats 8000000 in
theorem first_any (p q : Option Addr) (n c d B : Nat) (L : List Lv) (tk : List Bool) (w : World) (hA : Rw 8 lcells w p n L) (hT : w.ownsRow B 4 1 (.slice q n d) n (tk.flatMap bcells)) (hl : tk.length = n) (hn : n ≤ 1000000) :
    Calls Try.prog 13 #[.slice p n c, .slice q n d] w (FirstEnd w (lts L) tk) := by
  have hn' : (n : Int) ≤ 1000000 := by omega
  have HA := Lib.hid hA
  have HT := Lib.hid hT
  have HL := Lib.hid hl
  have HN := Lib.hid hA.1
  have HS := Lib.hid (show (lts L).length = n by unfold lts; rw [List.length_map]; exact hA.1)
  have U0 := Lib.hid (upto_start (lts L) tk)
  have B0 := Lib.hid (Below.refl w.heap.size w)
  clear hA hT hl
  go_enter Try.func13, Try.ntmps13
  go_wp2_with fail
  go_loopw [5, 6] (fun b i wr => ∃ (k : Nat) (bb : Int), k ≤ n ∧ i = .int .i64 k ∧ b = .int .i64 bb ∧ Hid (Upto (lts L) tk k bb) ∧ Hid (Below w.heap.size w wr)) (fun _ i _ => n - (RowKit.intOf i).toNat)
  case atStart => exact ⟨0, -1, Nat.zero_le _, rfl, rfl, U0, B0⟩
  case round =>
    clear U0 B0
    obtain ⟨k, bb, hk, rfl, rfl, UK, BR⟩ := hrel
    by_cases hlt : k < n
    · have hk3 : (k : Int) < (n : Int) := by omega
      obtain ⟨y, hy⟩ : ∃ y, L[k]? = some y := ⟨_, List.getElem?_eq_getElem (by rw [HN.out]; exact hlt)⟩
      obtain ⟨t, ht⟩ : ∃ t, tk[k]? = some t := ⟨_, List.getElem?_eq_getElem (by rw [HL.out]; exact hlt)⟩
      have OT := Lib.hid (own_turn HT.out (Turn.of_below (S := fun _ => False) BR.out) (fun _ _ hf => hf))
      have AR := Lib.hid (HA.out.keep lcells_len BR.out)
      obtain ⟨g, rfl, j1, j2, c0⟩ := tk_at OT.out HL.out ht
      obtain ⟨b, o, rfl, e0, j3, j4, e3⟩ := lv_at AR.out hy
      clear j1 j2 j3 j4
      have HY := Lib.hid (lts_at hy)
      have HTK := Lib.hid ht
      clear hy ht OT
      cases t with
      | true =>
        have UN := Lib.hid (upto_taken UK.out HTK.out)
        clear UK e0 e3 AR
        go_wp2
        go_roundw
        case rel => exact ⟨k + 1, bb, by omega, by go_num, rfl, UN, BR⟩
        case measure => simp [RowKit.intOf]; omega
      | false =>
        rcases upto_place UK.out with rfl | ⟨i, z, rfl, hik, hz⟩
        · have UN := Lib.hid (upto_first UK.out HY.out HTK.out)
          clear UK AR e0 e3
          go_wp2_with fail
          go_quiet (fail)
          go_wp2
          go_roundw
          case rel => exact ⟨k + 1, _, by omega, by go_num, rfl, UN, Lib.hid (below_drewN BR.out _)⟩
          case measure => simp [RowKit.intOf]; omega
        · have UN := Lib.hid (upto_next UK.out HY.out HTK.out hz)
          obtain ⟨yi, hyi⟩ : ∃ yi, L[i]? = some yi := ⟨_, List.getElem?_eq_getElem (by rw [HN.out]; omega)⟩
          have hzx : z = yi.x := by
            have h1 := lts_at hyi
            rw [hz] at h1
            exact Option.some.inj h1
          subst hzx
          obtain ⟨b', o', eq, f0, j1, j2, f3⟩ := lv_at AR.out hyi
          cases eq
          clear j1 j2
          have hi3 : (i : Int) < (n : Int) := by omega
          have hi0 : decide ((i : Int) < 0) = false := by simp
          clear hz hyi UK AR HY HTK
          have BI := Lib.hid (bf_iff (a := y.x) (b := yi.x))
          generalize hbx : bfB y.x yi.x = bx at *
          clear hbx
          generalize y.x.expiry = xe at *
          generalize y.x.id = xi at *
          generalize yi.x.expiry = ze at *
          generalize yi.x.id = zi at *
          by_cases h1 : xe < ze
          · have hb : bx = true := BI.out.2 (.inl h1)
            rw [if_pos hb] at UN
            clear hb BI
            go_wp2_with fail
            go_quiet (fail)
            go_wp2
            go_roundw
            case rel => exact ⟨k + 1, _, by omega, by go_num, rfl, UN, Lib.hid (below_drewN BR.out _)⟩
            case measure => simp [RowKit.intOf]; omega
          · by_cases h2 : xe = ze
            · subst h2
              by_cases h3 : xi < zi
              · have hb : bx = true := BI.out.2 (.inr ⟨rfl, h3⟩)
                rw [if_pos hb] at UN
                clear hb h1 BI
                go_wp2_with fail
                go_quiet (fail)
                go_wp2
                go_roundw
                case rel => exact ⟨k + 1, _, by omega, by go_num, rfl, UN, Lib.hid (below_drewN BR.out _)⟩
                case measure => simp [RowKit.intOf]; omega
              · have hb : ¬ bx = true := by rw [BI.out]; omega
                rw [if_neg hb] at UN
                clear hb h1 BI
                go_wp2_with fail
                go_quiet (fail)
                go_wp2
                go_roundw
                case rel => exact ⟨k + 1, _, by omega, by go_num, rfl, UN, Lib.hid (below_drewN BR.out _)⟩
                case measure => simp [RowKit.intOf]; omega
            · have h4 : ze < xe := by omega
              have h2b : (xe == ze) = false := by simp [h2]
              have h5 : decide (xe < ze) = false := by simp; omega
              have hb : ¬ bx = true := by rw [BI.out]; omega
              rw [if_neg hb] at UN
              clear hb h1 h2 h4 BI
              go_wp2_with fail
              go_quiet (fail)
              go_wp2
              go_roundw
              case rel => exact ⟨k + 1, _, by omega, by go_num, rfl, UN, Lib.hid (below_drewN BR.out _)⟩
              case measure => simp [RowKit.intOf]; omega
    · obtain rfl : k = n := by omega
      go_wp2
      go_ret
      exact ⟨bb, rfl, by rw [HS.out]; exact UK.out, BR.out⟩
end Ff
end Go.Proofs.Ytclpdemhfbjliaa
