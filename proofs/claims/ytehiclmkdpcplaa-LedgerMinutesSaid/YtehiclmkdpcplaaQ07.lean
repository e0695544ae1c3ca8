/- Walks over package ledger: a new one, the zone of a number, what tells a stay's sum. No condition but those written. Walks over package ledger: a zone's air, its readings; no ledger. No condition but those written. What an index has added up already: its parts, in plain words; runs of minutes, one behind the other. No condition but those written. Walks over the sums and the product of package sat and of the document's answer; no condition but those written. Walks over package excess: what is a tenth, what counts, sums and excesses. No condition but those written. Walks over package excess: an index's memory; how many parts begin ahead of a minute. Conditions: parts that reckon what they say. A region that draws its order, in a round of a range over a function: by the plain laws. No condition but those written. -/
import Derived.Test.YtehiclmkdpcplaaQ06
import Derived.WalkSpells
import Derived.Test.YtehiclmkdpcplaaQ02
import Derived.Test.YtehiclmkdpcplaaQ04
import Derived.WalkMore
import Derived.Test.YtehiclmkdpcplaaQ01
import Derived.RangeFuncNested
import Derived.RangeFuncBound
import Derived.RangeFuncCalls
import Derived.RangeFuncLeaves
import Derived.Deep.RegionHeld3
import Derived.StillTail
import Derived.WalkKit
import Derived.OwnWalkIn
import Derived.TacticsInMore
import Derived.LoopNIn
import Derived.LoopIn
namespace Go.Proofs.Ytehiclmkdpcplaa
open Go.RowKit Go.Maps Se

namespace Lg
theorem zeroPz (W : World) : (zeroValue 58).run Try.prog W = .ok (qval none) W := by kernel_rfl
theorem zeroPx (W : World) : (zeroValue 84).run Try.prog W = .ok (qval none) W := by kernel_rfl
set_option maxRecDepth 100000 in
theorem pnewL_any (J : Se.Face) (I : Ex.Face) (w : World) : Calls Try.prog 19 #[] w fun e w' => ∃ h F, e = .returned (.pointer (some ⟨h, 0, none⟩)) ∧ DBl J I w' w.heap.size h F [] ∧ Below w.heap.size w w' := by
  have X := Lib.hid (Lies.new w 79 #[.map none])
  have R := Lib.hid (alloc_below w (.cells #[.map none] 79))
  go_enter Try.func19, Try.ntmps19
  go_wp2
  go_ret
  refine ⟨w.heap.size, LF w.heap.size none [], rfl, ⟨none, [], ⟨Nat.le_refl _, X.out, .inl ⟨rfl, rfl⟩, fun y hy => by simp at hy, sep_nil, fun y hy => by simp at hy, List.Pairwise.nil⟩, rfl, fun k => Iff.rfl⟩, R.out⟩
theorem pfind_nil (id : Int) (w : World) : Calls Try.prog 21 #[.pointer none, .int .i64 id] w fun e w' => e = .returned (.tuple #[.pointer none, .int .i64 1]) ∧ w = w' := by
  go_enter Try.func21, Try.ntmps21
  go_wp2
  go_ret2
  exact ⟨rfl, rfl⟩
set_option maxRecDepth 100000 in
theorem pfind_no {B h : Nat} {mo : Option Nat} {S : List Kq} (id : Int) (w : World) (hl : Lies w h 79 #[.map mo]) (ht : Tq w B mo S) (hm : Ms.In64 id) (hf : fq id S = none) :
    Calls Try.prog 21 #[.pointer (some ⟨h, 0, none⟩), .int .i64 id] w fun e w' => e = .returned (.tuple #[.pointer none, .int .i64 5]) ∧ w = w' := by
  have K := tlook_q Try.underlying77 zeroPz ht hm w (Below.refl _ _)
  rw [hf] at K
  simp only [qval, Option.isSome_none] at K
  have l0 : w.cell? ⟨h, 0, none⟩ = some (.map mo) := hl.cell 0
  clear hl ht hm hf
  go_enter Try.func21, Try.ntmps21
  go_wp2
  go_ret2
  exact ⟨rfl, rfl⟩
set_option maxRecDepth 100000 in
theorem pfind_yes {B h q : Nat} {mo : Option Nat} {S : List Kq} (id : Int) (w : World) (hl : Lies w h 79 #[.map mo]) (ht : Tq w B mo S) (hm : Ms.In64 id) (hf : fq id S = some q) :
    Calls Try.prog 21 #[.pointer (some ⟨h, 0, none⟩), .int .i64 id] w fun e w' => e = .returned (.tuple #[.pointer (some ⟨q, 0, none⟩), .int .i64 0]) ∧ w = w' := by
  have K := tlook_q Try.underlying77 zeroPz ht hm w (Below.refl _ _)
  rw [hf] at K
  simp only [qval, Option.isSome_some] at K
  have l0 : w.cell? ⟨h, 0, none⟩ = some (.map mo) := hl.cell 0
  clear hl ht hm hf
  go_enter Try.func21, Try.ntmps21
  go_wp2
  go_ret2
  exact ⟨rfl, rfl⟩
/-- What tells a stay's sum: the ledger, and the limit, each in a block. -/
def teller (a b : Nat) : Value := .func (.func 40) #[] #[.pointer (some ⟨a, 0, none⟩), .pointer (some ⟨b, 0, none⟩)]
set_option maxRecDepth 100000 in
theorem pover_any (p : Option Addr) (lim : Int) (w : World) : Calls Try.prog 25 #[.pointer p, .int .i64 lim] w fun e w' =>
    e = .returned (teller w.heap.size (w.heap.size + 1)) ∧ w' = (w.alloc (.cells #[.pointer p] 29)).alloc (.cells #[.int .i64 lim] 3) := by
  have hmf : ∀ (fn : Fn) (first cap : Array Value) (w : World), (Instr.makeFunc fn first cap).run Try.prog w = .ok (.func fn first cap) w := fun _ _ _ _ => rfl
  unfold teller
  go_enter Try.func25, Try.ntmps25
  go_wp2
  go_ret
  exact ⟨by simp, rfl⟩
end Lg
end Go.Proofs.Ytehiclmkdpcplaa

namespace Go.Proofs.Ytehiclmkdpcplaa
open Go.RowKit Go.Maps Se

namespace Lg
theorem no_zone {L : List Pz} {id : Int} (h : atZ id (L.map Pz.z) = none) : fq id (L.map pkq) = none := by rw [fq_at, h]; rfl
theorem one_zone {L : List Pz} {id : Int} {i : Nat} (h : atZ id (L.map Pz.z) = some i) : ∃ y, L[i]? = some y ∧ (L.map Pz.z)[i]? = some y.z ∧ fq id (L.map pkq) = some y.q ∧ y.z.id = id := by
  obtain ⟨x, hx, e⟩ := at_some h
  rw [List.getElem?_map] at hx
  obtain ⟨y, hy, rfl⟩ := Option.map_eq_some_iff.1 hx
  refine ⟨y, hy, by rw [List.getElem?_map, hy]; rfl, ?_, e⟩
  rw [fq_at, h]
  show (L[i]?).map Pz.q = some y.q
  rw [hy]
  rfl
theorem in64_i {m : Int} (h : I64 m) : Ms.In64 m := Ms.in64_of h.1 h.2
set_option maxRecDepth 100000 in
set_option maxHeartbeats 4000000 in
/-- The air of a zone's minute. -/
theorem pairL_any (J : Se.Face) (I : Ex.Face) (B h : Nat) (F : Nat → Prop) (st : List Zl) (zone m : Int) (w : World) (hp : DBl J I w B h F st) (hg : Good st 1000) (hz : I64 zone) (hm : I64 m) :
    Calls Try.prog 12 #[.pointer (some ⟨h, 0, none⟩), .int .i64 zone, .int .i64 m] w fun e w' => e = .returned (.tuple #[.int .i64 (airZ st zone m).1, .int .i64 ((airZ st zone m).2 : Nat)]) ∧ Below w.heap.size w w' := by
  obtain ⟨mo, L, hP, rfl, _⟩ := hp
  cases ha : atZ zone (L.map Pz.z) with
  | none =>
    have K := Lib.hid (pfind_no zone w hP.blk hP.tab (in64_i hz) (no_zone ha))
    rw [show airZ (L.map Pz.z) zone m = (0, 5) by unfold airZ; rw [ha]]
    clear hP hg ha
    go_enter Try.func12, Try.ntmps12
    go_wp2_with fail
    refine K.out.mono ?_
    rintro e w' ⟨rfl, rfl⟩
    go_wp2
    go_ret2
    exact ⟨rfl, Below.refl _ _⟩
  | some i =>
    obtain ⟨y, hy, hy2, hq, _⟩ := one_zone ha
    have hZ := hP.zones y (List.mem_of_getElem? hy)
    have g := hg y.z (List.mem_of_getElem? hy2)
    have K := Lib.hid (pfind_yes zone w hP.blk hP.tab (in64_i hz) hq)
    have KA := Lib.hid (J.airAt y.ab y.a y.A y.z.wo y.z.ga y.z.S m w hZ.air g.sorted g.right g.may g.len hm.1 hm.2)
    have l2 : w.cell? ⟨y.q, 2, none⟩ = some (.pointer (some ⟨y.a, 0, none⟩)) := hZ.blk.cell 2
    rw [show airZ (L.map Pz.z) zone m = (air y.z.wo y.z.ga y.z.S m, 0) by unfold airZ; rw [ha]; simp only [hy2]]
    clear hP hg ha hy hy2 hq hZ g hz hm
    generalize air y.z.wo y.z.ga y.z.S m = v at *
    go_enter Try.func12, Try.ntmps12
    go_wp2_with fail
    refine K.out.mono ?_
    rintro e w' ⟨rfl, rfl⟩
    go_wp2_with fail
    refine KA.out.mono ?_
    rintro e w' ⟨rfl, hb⟩
    have HB := Lib.hid hb
    clear hb l2
    go_wp2
    go_ret2
    exact ⟨rfl, HB.out⟩
/-- What a zone's readings are told in. -/
def TellsR (w : World) (S : List Rd) (e : Ending) (w' : World) : Prop := ∃ v, e = .returned v ∧ w'.ownsRow w.heap.size 37 3 v S.length (S.flatMap rcells) ∧ Below w.heap.size w w'
set_option maxRecDepth 100000 in
set_option maxHeartbeats 4000000 in
/-- A zone's readings. -/
theorem ptold_any (J : Se.Face) (I : Ex.Face) (B h : Nat) (F : Nat → Prop) (st : List Zl) (zone : Int) (w : World) (hp : DBl J I w B h F st) (hg : Good st 1000) (hz : I64 zone) :
    Calls Try.prog 15 #[.pointer (some ⟨h, 0, none⟩), .int .i64 zone] w (TellsR w (readZ st zone)) := by
  obtain ⟨mo, L, hP, rfl, _⟩ := hp
  cases ha : atZ zone (L.map Pz.z) with
  | none =>
    have K := Lib.hid (pfind_no zone w hP.blk hP.tab (in64_i hz) (no_zone ha))
    rw [show readZ (L.map Pz.z) zone = [] by unfold readZ; rw [ha]]
    clear hP hg ha
    go_enter Try.func15, Try.ntmps15
    go_wp2_with fail
    refine K.out.mono ?_
    rintro e w' ⟨rfl, rfl⟩
    go_wp2
    go_ret
    exact ⟨_, rfl, World.ownsRow_nil _ _ _ _, Below.refl _ _⟩
  | some i =>
    obtain ⟨y, hy, hy2, hq, _⟩ := one_zone ha
    have hZ := hP.zones y (List.mem_of_getElem? hy)
    have g := hg y.z (List.mem_of_getElem? hy2)
    have K := Lib.hid (pfind_yes zone w hP.blk hP.tab (in64_i hz) hq)
    have KA := Lib.hid (J.told y.ab y.a y.A y.z.wo y.z.ga y.z.S w hZ.air g.sorted g.len)
    have l2 : w.cell? ⟨y.q, 2, none⟩ = some (.pointer (some ⟨y.a, 0, none⟩)) := hZ.blk.cell 2
    rw [show readZ (L.map Pz.z) zone = y.z.S by unfold readZ; rw [ha]; simp only [hy2]]
    clear hP hg ha hy hy2 hq hZ g hz
    go_enter Try.func15, Try.ntmps15
    go_wp2_with fail
    refine K.out.mono ?_
    rintro e w' ⟨rfl, rfl⟩
    go_wp2_with fail
    refine KA.out.mono ?_
    rintro e w' ⟨v, rfl, ho, hb⟩
    have HB := Lib.hid hb
    have HO := Lib.hid ho
    clear hb ho l2
    go_wp2
    go_ret
    exact ⟨_, rfl, HO.out, HB.out⟩
set_option maxRecDepth 100000 in
theorem nilL_add (z : Ms.Zn) (w : World) : Calls Try.prog 17 #[.pointer none, Ms.zval z] w fun e w' => e = .returned (.int .i64 1) ∧ Below w.heap.size w w' := by
  obtain ⟨a, b, c, d, e, f⟩ := z
  simp only [Ms.zval]
  have B0 := Lib.hid (alloc_below w (.cells #[.int .i64 a, .int .i64 b, .int .i64 c, .int .i64 d, .bool e, .int .i64 f] 48))
  go_enter Try.func17, Try.ntmps17
  go_wp2
  go_ret
  exact ⟨rfl, B0.out⟩
set_option maxRecDepth 100000 in
theorem nilL_put (zone : Int) (r : Rd) (w : World) : Calls Try.prog 8 #[.pointer none, .int .i64 zone, rval r] w fun e w' => e = .returned (.tuple #[.bool false, .int .i64 1]) ∧ Below w.heap.size w w' := by
  obtain ⟨a, b, c⟩ := r
  simp only [rval]
  have B0 := Lib.hid (alloc_below w (.cells #[.int .i64 a, .int .i64 b, .int .i64 c] 37))
  go_enter Try.func8, Try.ntmps8
  go_wp2_with fail
  refine (pfind_nil zone _).mono ?_
  rintro e w' ⟨rfl, rfl⟩
  go_wp2
  go_ret2
  exact ⟨rfl, B0.out⟩
set_option maxRecDepth 100000 in
theorem nilL_air (zone m : Int) (w : World) : Calls Try.prog 12 #[.pointer none, .int .i64 zone, .int .i64 m] w fun e w' => e = .returned (.tuple #[.int .i64 0, .int .i64 1]) ∧ Below w.heap.size w w' := by
  go_enter Try.func12, Try.ntmps12
  go_wp2_with fail
  refine (pfind_nil zone _).mono ?_
  rintro e w' ⟨rfl, rfl⟩
  go_wp2
  go_ret2
  exact ⟨rfl, Below.refl _ _⟩
set_option maxRecDepth 100000 in
theorem nilL_told (zone : Int) (w : World) : Calls Try.prog 15 #[.pointer none, .int .i64 zone] w fun e w' => e = .returned (.slice none 0 0) ∧ Below w.heap.size w w' := by
  go_enter Try.func15, Try.ntmps15
  go_wp2_with fail
  refine (pfind_nil zone _).mono ?_
  rintro e w' ⟨rfl, rfl⟩
  go_wp2
  go_ret
  exact ⟨rfl, Below.refl _ _⟩
end Lg
end Go.Proofs.Ytehiclmkdpcplaa

namespace Go.Proofs.Ytehiclmkdpcplaa.Ex
open Se

/-- A part: a run of minutes. -/
structure Pt where
  frm : Int
  bef : Int
  exc : Int
/-- How many parts begin ahead of a minute. -/
def Ahd (P : List Pt) (m : Int) (n : Nat) : Prop := n ≤ P.length ∧ ∀ (j : Nat) (x : Pt), P[j]? = some x → (j < n → x.frm < m) ∧ (n ≤ j → m ≤ x.frm)
/-- Parts are in order. -/
def Rise (P : List Pt) : Prop := ∀ (i j : Nat) (x y : Pt), P[i]? = some x → P[j]? = some y → i < j → x.frm < y.frm
/-- Parts reckon what they say, from minute 0 up to one. -/
structure Rec (f : Int → Int) (P : List Pt) (kn : Int) : Prop where
  lo : 0 ≤ kn
  hi : kn ≤ 1048576
  rise : Rise P
  inn : ∀ (j : Nat) (x : Pt), P[j]? = some x → 0 ≤ x.frm ∧ x.frm < kn
  first : 0 < kn → ∃ (j : Nat) (x : Pt), P[j]? = some x ∧ x.frm = 0
  bef : ∀ (j : Nat) (x : Pt), P[j]? = some x → x.bef = run f 0 x.frm.toNat
  exc : ∀ (j : Nat) (x : Pt), P[j]? = some x → ∀ m, x.frm ≤ m → m < kn → (∀ (i : Nat) (y : Pt), P[i]? = some y → x.frm < y.frm → m < y.frm) → f m = x.exc
theorem rec_nil (f : Int → Int) : Rec f [] 0 :=
  ⟨Int.le_refl _, by decide, fun _ _ _ _ h => by simp at h, fun _ _ h => by simp at h, fun h => absurd h (by decide), fun _ _ h => by simp at h, fun _ _ h => by simp at h⟩
theorem rec_zero {f : Int → Int} {P : List Pt} {kn m : Int} (h : Rec f P kn) (ha : Ahd P m 0) (h0 : 0 ≤ m) (hm : m ≤ kn) : m = 0 := by
  by_cases hp : 0 < kn
  · obtain ⟨j, x, hx, h1⟩ := h.first hp
    have := (ha.2 j x hx).2 (Nat.zero_le _)
    omega
  · omega
theorem run_same_from {f : Int → Int} {a c : Int} {k : Nat} (h : ∀ m, a ≤ m → m < a + k → f m = c) : run f a k = c * k :=
  run_same fun j hj => h (a + j) (by omega) (by omega)
theorem rec_sum {f : Int → Int} {P : List Pt} {kn m : Int} {n : Nat} {x : Pt} (h : Rec f P kn) (ha : Ahd P m n) (hn : 0 < n) (hm : m ≤ kn) (hx : P[n - 1]? = some x) :
    0 ≤ x.frm ∧ x.frm < m ∧ x.bef + x.exc * (m - x.frm) = run f 0 m.toNat := by
  have h1 := h.inn _ _ hx
  have h2 := (ha.2 _ _ hx).1 (by omega)
  refine ⟨h1.1, h2, ?_⟩
  have e : m.toNat = x.frm.toNat + (m - x.frm).toNat := by omega
  rw [e, run_add, ← h.bef _ _ hx, run_same_from (c := x.exc) (fun t ht1 ht2 => ?_)]
  · congr 2
    omega
  · refine h.exc _ _ hx t (by omega) (by omega) (fun i y hy hxy => ?_)
    by_cases hi : i ≤ n - 1
    · rcases Nat.lt_or_eq_of_le hi with hi | hi
      · have := h.rise _ _ _ _ hy hx hi
        omega
      · subst hi
        rw [hx] at hy
        cases hy
        omega
    · have := (ha.2 i y hy).2 (by omega)
      omega
theorem rec_cut {f g : Int → Int} {P : List Pt} {kn m : Int} {n : Nat} (h : Rec f P kn) (ha : Ahd P m n) (h0 : 0 ≤ m) (hm : m ≤ 1048576) (hg : ∀ t, t < m → g t = f t) : Rec g (P.take n) (min kn m) := by
  have hi := h.hi
  have lo := h.lo
  have tk : ∀ {j : Nat} {x : Pt}, (P.take n)[j]? = some x → j < n ∧ P[j]? = some x := fun {j x} hj => by
    rw [List.getElem?_take] at hj
    split at hj
    · exact ⟨‹_›, hj⟩
    · cases hj
  have kt : ∀ {j : Nat} {x : Pt}, j < n → P[j]? = some x → (P.take n)[j]? = some x := fun {j x} hj hx => by
    rw [List.getElem?_take, if_pos hj]
    exact hx
  refine ⟨by omega, by omega, fun i j x y hx hy hij => h.rise i j x y (tk hx).2 (tk hy).2 hij, fun j x hx => ?_, fun hp => ?_, fun j x hx => ?_, fun j x hx t h1 h2 h3 => ?_⟩
  · obtain ⟨h1, h2⟩ := tk hx
    have := h.inn _ _ h2
    have := (ha.2 _ _ h2).1 h1
    omega
  · obtain ⟨j, x, hx, e⟩ := h.first (by omega)
    refine ⟨j, x, kt (Nat.lt_of_not_le fun hc => ?_) hx, e⟩
    have := (ha.2 _ _ hx).2 hc
    omega
  · obtain ⟨h1, h2⟩ := tk hx
    have h3 := (ha.2 _ _ h2).1 h1
    have h4 := h.inn _ _ h2
    rw [h.bef _ _ h2]
    exact run_congr fun i hi => (hg _ (by omega)).symm
  · obtain ⟨k1, k2⟩ := tk hx
    rw [hg t (by omega)]
    refine h.exc _ _ k2 t h1 (by omega) (fun i y hy hxy => ?_)
    by_cases hin : i < n
    · exact h3 i y (kt hin hy) hxy
    · have := (ha.2 _ _ hy).2 (by omega)
      omega
theorem snoc_at {α : Type} {l : List α} {a x : α} {j : Nat} (h : (l ++ [a])[j]? = some x) : l[j]? = some x ∨ (j = l.length ∧ x = a) := by
  by_cases hj : j < l.length
  · rw [List.getElem?_append_left hj] at h
    exact .inl h
  · rw [List.getElem?_append_right (by omega)] at h
    rcases Nat.lt_or_ge 0 (j - l.length) with h1 | h1
    · rw [List.getElem?_eq_none (by simp; omega)] at h
      cases h
    · have e : j - l.length = 0 := by omega
      rw [e] at h
      exact .inr ⟨by omega, by simpa using h.symm⟩
theorem rec_snoc {f : Int → Int} {P : List Pt} {kn e c s : Int} (h : Rec f P kn) (h1 : kn < e) (h2 : e ≤ 1048576) (hc : ∀ m, kn ≤ m → m < e → f m = c) (hs : s = run f 0 kn.toNat) : Rec f (P ++ [⟨kn, s, c⟩]) e := by
  have lo := h.lo
  have old : ∀ {j : Nat} {x : Pt}, P[j]? = some x → (P ++ [⟨kn, s, c⟩])[j]? = some x := fun {j x} hj => by
    rw [List.getElem?_append_left (List.getElem?_eq_some_iff.1 hj).1]
    exact hj
  have new : (P ++ [(⟨kn, s, c⟩ : Pt)])[P.length]? = some ⟨kn, s, c⟩ := by simp
  refine ⟨by omega, h2, fun i j x y hx hy hij => ?_, fun j x hx => ?_, fun _ => ?_, fun j x hx => ?_, fun j x hx m m1 m2 m3 => ?_⟩
  · rcases snoc_at hx with hx | ⟨ex, rfl⟩
    · rcases snoc_at hy with hy | ⟨_, rfl⟩
      · exact h.rise i j x y hx hy hij
      · exact (h.inn _ _ hx).2
    · rcases snoc_at hy with hy | ⟨ey, _⟩
      · have := (List.getElem?_eq_some_iff.1 hy).1
        omega
      · omega
  · rcases snoc_at hx with hx | ⟨_, rfl⟩
    · have := h.inn _ _ hx
      omega
    · exact ⟨lo, h1⟩
  · by_cases hp : 0 < kn
    · obtain ⟨j, x, hx, e⟩ := h.first hp
      exact ⟨j, x, old hx, e⟩
    · exact ⟨_, _, new, (by omega : kn = 0)⟩
  · rcases snoc_at hx with hx | ⟨_, rfl⟩
    · exact h.bef _ _ hx
    · exact hs
  · rcases snoc_at hx with hx | ⟨_, rfl⟩
    · refine h.exc _ _ hx m m1 ?_ (fun i y hy hxy => m3 i y (old hy) hxy)
      exact m3 _ _ new (h.inn _ _ hx).2
    · exact hc m m1 m2
/-- A run of minutes: from one up to another one. -/
abbrev Rn := { p : Int × Int // 0 ≤ p.1 ∧ p.1 < p.2 ∧ p.2 ≤ 1048576 }
/-- Runs, one behind the other, of one value each. -/
def Chn (f : Int → Int) : Int → List Rn → Int → Prop
  | a, [], c => a = c
  | a, x :: xs, c => x.1.1 = a ∧ (∀ m, x.1.1 ≤ m → m < x.1.2 → f m = f x.1.1) ∧ Chn f x.1.2 xs c
theorem chn_snoc {f : Int → Int} : ∀ {pre : List Rn} {a b : Int} {x : Rn}, Chn f a pre b → x.1.1 = b → (∀ m, x.1.1 ≤ m → m < x.1.2 → f m = f x.1.1) → Chn f a (pre ++ [x]) x.1.2
  | [], _, _, _, h, h1, h2 => ⟨h1.trans (Eq.symm h), h2, rfl⟩
  | _ :: _, _, _, _, h, h1, h2 => ⟨h.1, h.2.1, chn_snoc h.2.2 h1 h2⟩
theorem chn_le {f : Int → Int} : ∀ {pre : List Rn} {a b : Int}, Chn f a pre b → a ≤ b
  | [], _, _, h => Int.le_of_eq h
  | y :: _, _, _, h => by
    have h1 := chn_le h.2.2
    have h2 := y.2.2.1
    have h3 := h.1
    omega
theorem chn_len {f : Int → Int} : ∀ {pre : List Rn} {a b : Int}, Chn f a pre b → a + pre.length ≤ b
  | [], a, b, h => by
    have h : a = b := h
    simp
    omega
  | y :: _, _, _, h => by
    have h1 := chn_len h.2.2
    have h2 := y.2.2.1
    have h3 := h.1
    simp only [List.length_cons]
    omega
/-- What is added up, run by run. -/
def fold (f : Int → Int) (s0 : Int) (pre : List Rn) : Int := pre.foldl (fun s x => St.St.cap (s + f x.1.1 * (x.1.2 - x.1.1))) s0
theorem fold_snoc (f : Int → Int) (s0 : Int) (pre : List Rn) (x : Rn) : fold f s0 (pre ++ [x]) = St.St.cap (fold f s0 pre + f x.1.1 * (x.1.2 - x.1.1)) := by simp [fold]
/-- Values of one minute, as they are. -/
def Mild (f : Int → Int) : Prop := ∀ m, 0 ≤ f m ∧ f m ≤ 2199023255552
theorem mild_mul {f : Int → Int} (hf : Mild f) (x : Rn) : 0 ≤ f x.1.1 * (x.1.2 - x.1.1) ∧ f x.1.1 * (x.1.2 - x.1.1) ≤ 2305843009213693952 := by
  obtain ⟨⟨a, b⟩, h1, h2, h3⟩ := x
  simp only at *
  have ha := hf a
  have h4 : 0 ≤ f a * (b - a) := Int.mul_nonneg ha.1 (by omega)
  have h5 : f a * (b - a) ≤ 2199023255552 * (b - a) := Int.mul_le_mul_of_nonneg_right ha.2 (by omega)
  omega
theorem fold_bd {f : Int → Int} (hf : Mild f) {s0 : Int} (h0 : 0 ≤ s0) (h1 : s0 ≤ 4611686018427387904) (pre : List Rn) : 0 ≤ fold f s0 pre ∧ fold f s0 pre ≤ 4611686018427387904 := by
  have key : ∀ (pre : List Rn) (s0 : Int), 0 ≤ s0 → s0 ≤ 4611686018427387904 → 0 ≤ fold f s0 pre ∧ fold f s0 pre ≤ 4611686018427387904 := by
    intro pre
    induction pre with
    | nil => exact fun s0 h0 h1 => ⟨h0, h1⟩
    | cons x xs ih =>
      intro s0 h0 h1
      have := mild_mul hf x
      have hb := St.St.cap_bd (n := s0 + f x.1.1 * (x.1.2 - x.1.1)) (by omega)
      exact ih _ hb.1 hb.2
  exact key pre s0 h0 h1
theorem fold_chn {f : Int → Int} (hf : Mild f) : ∀ {pre : List Rn} {s0 a c : Int}, Chn f a pre c → 0 ≤ s0 → s0 + run f a (c - a).toNat ≤ 4611686018427387904 → fold f s0 pre = s0 + run f a (c - a).toNat
  | [], s0, a, c, h, _, _ => by
    have h : a = c := h
    subst h
    simp [fold, run]
  | x :: xs, s0, a, c, h, h0, h1 => by
    obtain ⟨rfl, h2, h3⟩ := h
    have hle := chn_le h3
    have hx := x.2.2.1
    have e : (c - x.1.1).toNat = (x.1.2 - x.1.1).toNat + (c - x.1.2).toNat := by omega
    have e2 : run f x.1.1 (c - x.1.1).toNat = f x.1.1 * (x.1.2 - x.1.1) + run f x.1.2 (c - x.1.2).toNat := by
      rw [e, run_add, run_same_from (c := f x.1.1) (fun m m1 m2 => h2 m m1 (by omega))]
      congr 2 <;> omega
    have hm := mild_mul hf x
    have hr := run_nn (fun m => (hf m).1) x.1.2 (c - x.1.2).toNat
    have ec : St.St.cap (s0 + f x.1.1 * (x.1.2 - x.1.1)) = s0 + f x.1.1 * (x.1.2 - x.1.1) := St.St.cap_mid (by omega)
    show fold f (St.St.cap (s0 + f x.1.1 * (x.1.2 - x.1.1))) xs = _
    rw [ec, fold_chn hf h3 (by omega) (by omega), e2, Int.add_assoc]
/-- The parts that runs make. -/
def mkP (f : Int → Int) (s0 : Int) (pre : List Rn) : List Pt := (pre.foldl (fun (p : Int × List Pt) x => (St.St.cap (p.1 + f x.1.1 * (x.1.2 - x.1.1)), p.2 ++ [⟨x.1.1, p.1, f x.1.1⟩])) (s0, [])).2
theorem mkP_fst (f : Int → Int) : ∀ (pre : List Rn) (s0 : Int) (L : List Pt), pre.foldl (fun (p : Int × List Pt) x => (St.St.cap (p.1 + f x.1.1 * (x.1.2 - x.1.1)), p.2 ++ [⟨x.1.1, p.1, f x.1.1⟩])) (s0, L) = (fold f s0 pre, L ++ mkP f s0 pre)
  | [], s0, L => by simp [fold, mkP]
  | x :: xs, s0, L => by
    show xs.foldl _ (St.St.cap (s0 + f x.1.1 * (x.1.2 - x.1.1)), L ++ [(⟨x.1.1, s0, f x.1.1⟩ : Pt)]) = _
    rw [mkP_fst f xs]
    have e : mkP f s0 (x :: xs) = [⟨x.1.1, s0, f x.1.1⟩] ++ mkP f (St.St.cap (s0 + f x.1.1 * (x.1.2 - x.1.1))) xs := by
      show (xs.foldl _ (St.St.cap (s0 + f x.1.1 * (x.1.2 - x.1.1)), [] ++ [(⟨x.1.1, s0, f x.1.1⟩ : Pt)])).2 = _
      rw [mkP_fst f xs]
      simp
    rw [e, List.append_assoc]
    rfl
theorem mkP_nil (f : Int → Int) (s0 : Int) : mkP f s0 [] = [] := rfl
theorem mkP_cons (f : Int → Int) (s0 : Int) (x : Rn) (xs : List Rn) : mkP f s0 (x :: xs) = ⟨x.1.1, s0, f x.1.1⟩ :: mkP f (St.St.cap (s0 + f x.1.1 * (x.1.2 - x.1.1))) xs := by
  show (xs.foldl _ (St.St.cap (s0 + f x.1.1 * (x.1.2 - x.1.1)), [] ++ [(⟨x.1.1, s0, f x.1.1⟩ : Pt)])).2 = _
  rw [mkP_fst f xs]
  simp
theorem mkP_snoc (f : Int → Int) (s0 : Int) (pre : List Rn) (x : Rn) : mkP f s0 (pre ++ [x]) = mkP f s0 pre ++ [⟨x.1.1, fold f s0 pre, f x.1.1⟩] := by
  unfold mkP
  rw [List.foldl_append, mkP_fst f pre]
  simp [mkP]
theorem mkP_len (f : Int → Int) : ∀ (pre : List Rn) (s0 : Int), (mkP f s0 pre).length = pre.length
  | [], _ => rfl
  | x :: xs, s0 => by rw [mkP_cons, List.length_cons, List.length_cons, mkP_len f xs]
/-- Where runs end. -/
def endOf (a : Int) (pre : List Rn) : Int := pre.foldl (fun _ x => x.1.2) a
theorem endOf_snoc (a : Int) (pre : List Rn) (x : Rn) : endOf a (pre ++ [x]) = x.1.2 := by simp [endOf]
theorem endOf_chn {f : Int → Int} : ∀ {pre : List Rn} {a c : Int}, Chn f a pre c → endOf a pre = c
  | [], _, _, h => h
  | x :: xs, _, c, h => show endOf x.1.2 xs = c from endOf_chn h.2.2
theorem endOf_bd {a : Int} (h0 : 0 ≤ a) (h1 : a ≤ 1048576) : ∀ (pre : List Rn), 0 ≤ endOf a pre ∧ endOf a pre ≤ 1048576
  | [] => ⟨h0, h1⟩
  | x :: xs => by
    have hx := x.2
    exact endOf_bd (by omega) hx.2.2 xs
theorem run_more {f : Int → Int} {a b : Int} (h0 : 0 ≤ a) (h : a ≤ b) : run f 0 b.toNat = run f 0 a.toNat + run f a (b - a).toNat := by
  rw [show b.toNat = a.toNat + (b - a).toNat by omega, run_add]
  congr 2
  omega
theorem run_top {f : Int → Int} (hf : Mild f) (a : Int) (k : Nat) (hk : k ≤ 1048576) : 0 ≤ run f a k ∧ run f a k ≤ 2305843009213693952 := by
  refine ⟨run_nn (fun m => (hf m).1) _ _, ?_⟩
  have h1 := run_le (fun m => (hf m).2) a k
  have h2 : (2199023255552 : Int) * (k : Int) ≤ 2199023255552 * 1048576 := Int.mul_le_mul_of_nonneg_left (by omega) (by decide)
  omega
theorem rec_chn {f : Int → Int} (hf : Mild f) : ∀ {pre : List Rn} {P : List Pt} {s0 a c : Int}, Rec f P a → Chn f a pre c → c ≤ 1048576 → s0 = run f 0 a.toNat → Rec f (P ++ mkP f s0 pre) c
  | [], P, s0, a, c, h, hc, _, _ => by
    have hc : a = c := hc
    subst hc
    rw [mkP_nil, List.append_nil]
    exact h
  | x :: xs, P, s0, a, c, h, hc, h1, hs => by
    obtain ⟨rfl, h2, h3⟩ := hc
    have hle := chn_le h3
    have hx := x.2
    have hr := rec_snoc (c := f x.1.1) (s := s0) h hx.2.1 (by omega) h2 hs
    have hb := run_top hf 0 x.1.1.toNat (by omega)
    have hm := mild_mul hf x
    have e : St.St.cap (s0 + f x.1.1 * (x.1.2 - x.1.1)) = run f 0 x.1.2.toNat := by
      rw [St.St.cap_mid (by omega), run_more hx.1 (Int.le_of_lt hx.2.1), ← hs, run_same_from (c := f x.1.1) (fun m m1 m2 => h2 m m1 (by omega))]
      congr 2
      omega
    have := rec_chn hf hr h3 h1 e
    rw [mkP_cons, ← List.append_cons] at *
    exact this
end Go.Proofs.Ytehiclmkdpcplaa.Ex

namespace Go.Proofs.Ytehiclmkdpcplaa
namespace St
open Go.RowKit

theorem add_nil (p : Option Addr) (c : Nat) (w : World) : Calls Try.prog 27 #[.slice p 0 c] w fun e w' => e = .returned (.int .i64 0) ∧ w = w' := by
  go_enter Try.func27, Try.ntmps27
  go_wp2
  go_loop [3, 8] (fun s i => i = .int .i64 0 ∧ s = .int .i64 0) (fun _ _ => 0)
  case atStart => exact ⟨rfl, rfl⟩
  case round =>
    obtain ⟨rfl, rfl⟩ := hrel
    go_wp2
    go_ret
    exact ⟨rfl, rfl⟩
theorem add_any (b off len cap : Nat) (zs : List Int) (w : World) (hz : len ≤ zs.length) (hbig : len ≤ 9223372036854775807) (hc : ∀ j, j < zs.length → w.cell? ⟨b, off + j, none⟩ = some (.int .i64 (zs.getD j 0))) :
    Calls Try.prog 27 #[.slice (some ⟨b, off, none⟩) len cap] w fun e w' => e = .returned (.int .i64 (St.cap (St.sum (zs.take len)))) ∧ w = w' := by
  have HC := Lib.hid hc
  clear hc
  go_enter Try.func27, Try.ntmps27
  go_wp2
  go_loop [3, 8] (fun s i => ∃ k : Nat, k ≤ len ∧ i = .int .i64 k ∧ s = .int .i64 (St.cap (St.sum (zs.take k)))) (fun _ i => len - (RowKit.intOf i).toNat)
  case atStart => exact ⟨0, Nat.zero_le _, rfl, rfl⟩
  case round =>
    obtain ⟨k, hk, rfl, rfl⟩ := hrel
    obtain ⟨c0, c1⟩ := St.cap_bd (St.sum_nn (zs.take k))
    by_cases hlt : k < len
    · have hcell := HC.out k (by omega)
      have HS := Lib.hid (St.step zs k (by omega))
      have F := fit_any (zs.getD k 0)
      obtain ⟨f0, f1⟩ := St.fit_bd (zs.getD k 0)
      generalize zs.getD k 0 = z at *
      generalize St.fit z = y at *
      generalize St.cap (St.sum (zs.take k)) = x at *
      have F' := Lib.hid F
      have P' := Lib.hid (plus_any x y c0 c1 f0 f1)
      clear F
      go_wp2_with fail
      refine (F'.out _).mono ?_
      rintro e w' ⟨rfl, rfl⟩
      go_wp2_with fail
      refine (P'.out _).mono ?_
      rintro e w' ⟨rfl, rfl⟩
      go_wp2
      go_round
      case rel => exact ⟨k + 1, by omega, by go_num, by rw [HS.out]⟩
      case measure => simp [RowKit.intOf]; omega
    · obtain rfl : k = len := by omega
      go_wp2
      go_ret
      exact ⟨rfl, rfl⟩
set_option maxHeartbeats 1000000 in
theorem mul_any (a b : Int) (w : World) :
    Calls Try.prog 81 #[.int .i64 a, .int .i64 b] w fun e w' => e = .returned (.int .i64 (St.cap (St.fit a * St.fit b))) ∧ w = w' := by
  have HA := fit_any a
  have HB := fit_any b
  obtain ⟨a0, a1⟩ := St.fit_bd a
  obtain ⟨b0, b1⟩ := St.fit_bd b
  generalize St.fit a = x at *
  generalize St.fit b = y at *
  have HA' := Lib.hid HA
  have HB' := Lib.hid HB
  clear HA HB
  go_enter Try.func81, Try.ntmps81
  go_wp2
  go_step3
  go_wp2_with fail
  refine (HA'.out _).mono ?_
  rintro e w' ⟨rfl, rfl⟩
  go_wp2
  go_step3
  go_wp2_with fail
  refine (HB'.out _).mono ?_
  rintro e w' ⟨rfl, rfl⟩
  go_wp2
  go_loop [5, 6, 7] (fun vp vq vr => ∃ p q r : Int, vp = .int .i64 p ∧ vq = .int .i64 q ∧ vr = .int .i64 r ∧ 0 ≤ p ∧ p ≤ 4611686018427387904 ∧ 0 ≤ q ∧ q ≤ 4611686018427387904 ∧ 0 ≤ r ∧ r ≤ 4611686018427387904 ∧ Hid (St.cap (p + q * r) = St.cap (x * y))) (fun _ _ vr => (RowKit.intOf vr).toNat)
  case atStart => exact ⟨0, x, y, rfl, rfl, rfl, by omega, by omega, a0, a1, b0, b1, Lib.hid (by rw [Int.zero_add])⟩
  case round =>
    obtain ⟨p, q, r, rfl, rfl, rfl, p0, p1, q0, q1, r0, r1, HI⟩ := hrel
    by_cases hr : 0 < r
    · by_cases hp : p = 4611686018427387904
      · have E := Lib.hid ((St.done hp q0 r0).symm.trans HI.out)
        have t1 : (p == 4611686018427387904) = true := by simp [hp]
        have HP := Lib.hid hp
        clear hp
        go_wp2
        try rw [Exit.noGoto_ret]
        go_ret
        exact ⟨ret_int (HP.out.trans E.out), rfl⟩
      · have t1 : (p == 4611686018427387904) = false := by simp [hp]
        have Q' := Lib.hid (plus_any q q q0 q1 q0 q1)
        obtain ⟨c0, c1⟩ := St.cap_bd (n := q + q) (by omega)
        clear hp
        rcases (show r % 2 = 0 ∨ r % 2 = 1 by omega) with h | h
        · have E := Lib.hid ((St.half0 p0 r0 h).symm.trans HI.out)
          have t2 : (r % 2 == 1) = false := by rw [h]; rfl
          generalize St.cap (q + q) = q' at *
          clear HI h
          go_wp2_with fail
          refine (Q'.out _).mono ?_
          rintro e w' ⟨rfl, rfl⟩
          go_wp2
          go_round
          case rel => exact ⟨p, q', r / 2, rfl, rfl, by go_num, p0, p1, c0, c1, by omega, by omega, E⟩
          case measure => simp [RowKit.intOf]; omega
        · have E := Lib.hid ((St.half1 p0 q0 r0 h).symm.trans HI.out)
          have P' := Lib.hid (plus_any p q p0 p1 q0 q1)
          obtain ⟨d0, d1⟩ := St.cap_bd (n := p + q) (by omega)
          have t2 : (r % 2 == 1) = true := by rw [h]; rfl
          generalize St.cap (q + q) = q' at *
          generalize St.cap (p + q) = p' at *
          clear HI h
          go_wp2_with fail
          refine (P'.out _).mono ?_
          rintro e w' ⟨rfl, rfl⟩
          go_wp2_with fail
          refine (Q'.out _).mono ?_
          rintro e w' ⟨rfl, rfl⟩
          go_wp2
          go_round
          case rel => exact ⟨p', q', r / 2, rfl, rfl, by go_num, d0, d1, c0, c1, by omega, by omega, E⟩
          case measure => simp [RowKit.intOf]; omega
    · obtain rfl : r = 0 := by omega
      have E := Lib.hid (show p = St.cap (x * y) by rw [← HI.out, Int.mul_zero, Int.add_zero, St.cap_mid p1])
      clear HI
      go_wp2
      try rw [Exit.noGoto_ret]
      go_ret
      exact ⟨ret_int E.out, rfl⟩
end St
end Go.Proofs.Ytehiclmkdpcplaa

namespace Go.Proofs.Ytehiclmkdpcplaa
open Go.RowKit Se

namespace Ex
theorem xten_any (t : Int) (w : World) : Calls Try.prog 73 #[.int .i64 t] w fun e w' => e = .returned (.bool (tenB t)) ∧ w = w' := by
  have E : tenB t = (decide (-1099511627776 ≤ t) && decide (t ≤ 1099511627776)) := by
    rw [Bool.eq_iff_iff]
    simp [tenB]
  rw [E]
  clear E
  by_cases h1 : -1099511627776 ≤ t
  · rw [decide_eq_true h1]
    go_enter Try.func73, Try.ntmps73
    go_wp2
    all_goals
      go_ret
      exact ⟨rfl, rfl⟩
  · rw [decide_eq_false h1]
    have h1' : t < -1099511627776 := by omega
    go_enter Try.func73, Try.ntmps73
    go_wp2
    all_goals
      go_ret
      exact ⟨rfl, rfl⟩
/-- A minute that counts. -/
def cou (m : Int) : Int := max 0 (min m 1048576)
theorem cou_bd (m : Int) : 0 ≤ cou m ∧ cou m ≤ 1048576 := by unfold cou; omega
theorem counted_any (m : Int) (w : World) : Calls Try.prog 67 #[.int .i64 m] w fun e w' => e = .returned (.int .i64 (cou m)) ∧ w = w' := by
  go_enter Try.func67, Try.ntmps67
  go_wp2
  go_ret
  exact ⟨rfl, rfl⟩
theorem longer_any (s e k : Int) (w : World) (h0 : 0 ≤ s) (h1 : s ≤ 4611686018427387904) (h2 : 0 ≤ e) (h3 : e ≤ 2199023255552) (h4 : 0 ≤ k) (h5 : k ≤ 1048576) :
    Calls Try.prog 75 #[.int .i64 s, .int .i64 e, .int .i64 k] w fun x w' => x = .returned (.int .i64 (St.St.cap (s + e * k))) ∧ Below w.heap.size w w' := by
  have p0 : 0 ≤ e * k := Int.mul_nonneg h2 h4
  have p1 : e * k ≤ 2305843009213693952 := by
    have a1 : e * k ≤ 2199023255552 * k := Int.mul_le_mul_of_nonneg_right h3 h4
    omega
  have M := St.mul_any e k
  rw [St.St.fit_mid h2 (by omega), St.St.fit_mid h4 (by omega), St.St.cap_mid (by omega)] at M
  generalize e * k = p at *
  have M' := Lib.hid M
  have A := Lib.hid ((St.add_any w.heap.size 0 2 2 [s, p] (w.alloc (.cells #[.int .i64 s, .int .i64 p] 3)) (by simp) (by omega) (fun j hj => by
    match j, hj with
    | 0, _ => simp
    | 1, _ => simp)).mono (R' := fun x w' => x = .returned (.int .i64 (St.St.cap (s + p))) ∧ Below w.heap.size w w') fun x w' ⟨he, hw⟩ => by
      subst he; subst hw
      refine ⟨St.ret_int ?_, (Below.refl _ _).alloc (Nat.le_refl _) _⟩
      have e1 := St.St.fit_mid h0 h1
      have e2 := St.St.fit_mid p0 (by omega)
      simp [St.St.sum, e1, e2])
  clear M h0 h1 h2 h3 h4 h5 p0 p1
  go_enter Try.func75, Try.ntmps75
  go_wp2_with fail
  refine (M'.out _).mono ?_
  rintro x w1 ⟨rfl, rfl⟩
  go_wp2_with fail
  refine A.out.mono ?_
  rintro x w2 ⟨rfl, hb⟩
  have B := Lib.hid hb
  clear hb
  go_wp2
  go_ret
  exact ⟨rfl, B.out⟩
/-- How much too warm the air of a minute is. -/
def exm (wo ga lim : Int) (L : List Rd) (m : Int) : Int := max 0 (air wo ga L m - lim)
theorem exm_mild {wo ga lim : Int} {L : List Rd} (hm : mayB wo ga = true) (hr : ∀ x ∈ L, rightB x = true) (hl : tenB lim = true) : Mild (exm wo ga lim L) := fun m => by
  have h := air_bd hm hr m
  have hl' : -1099511627776 ≤ lim ∧ lim ≤ 1099511627776 := by simpa [tenB] using hl
  unfold exm
  omega
theorem exm_exc {wo ga lim : Int} {L : List Rd} {m : Int} (h0 : 0 ≤ m) (h1 : m < 1048576) : exc wo ga lim L m = exm wo ga lim L m := by
  unfold exc exm
  rw [if_neg (by omega)]
theorem excess_any (B h : Nat) (F : Nat → Prop) (wo ga lim : Int) (S : List Rd) (m : Int) (w : World) (hp : PSF w B h F wo ga S) (hs : Sorted S) (hr : ∀ x ∈ S, rightB x = true) (hm : mayB wo ga = true) (hl : tenB lim = true) (hL : S.length ≤ 1000) (h0 : 0 ≤ m) (h1 : m ≤ 1048576) :
    Calls Try.prog 80 #[.pointer (some ⟨h, 0, none⟩), .int .i64 lim, .int .i64 m] w fun e w' => e = .returned (.int .i64 (exm wo ga lim S m)) ∧ Below w.heap.size w w' := by
  have A := Lib.hid (face.airAt B h F wo ga S m w hp hs hr hm hL (by omega) (by omega))
  have hb := air_bd hm hr m
  have hl' : -1099511627776 ≤ lim ∧ lim ≤ 1099511627776 := by simpa [tenB] using hl
  have E := Lib.hid (show exm wo ga lim S m = St.St.fit (air wo ga S m - lim) by
    unfold exm
    by_cases h : air wo ga S m - lim < 0
    · rw [St.St.fit_neg h]
      omega
    · rw [St.St.fit_mid (by omega) (by omega)]
      omega)
  generalize air wo ga S m = u at *
  have T := Lib.hid (fun W => St.fit_any (u - lim) W)
  clear hp hs hr hm hl
  obtain ⟨hb1, hb2⟩ := hb
  obtain ⟨hl1, hl2⟩ := hl'
  go_enter Try.func80, Try.ntmps80
  go_wp2_with fail
  refine A.out.mono ?_
  rintro e w1 ⟨rfl, hb⟩
  have B1 := Lib.hid hb
  clear hb A
  go_wp2_with fail
  refine (T.out _).mono ?_
  rintro e w2 ⟨rfl, rfl⟩
  go_wp2
  go_ret
  exact ⟨by rw [E.out]; rfl, B1.out⟩
end Ex
end Go.Proofs.Ytehiclmkdpcplaa

namespace Go.Proofs.Ytehiclmkdpcplaa
open Go.RowKit Se

namespace Ex
/-- A part's cells. -/
def pcells (x : Pt) : List Value := [.int .i64 x.frm, .int .i64 x.bef, .int .i64 x.exc]
theorem pcells_len (x : Pt) : (pcells x).length = 3 := rfl
def pval (x : Pt) : Value := .agg #[.int .i64 x.frm, .int .i64 x.bef, .int .i64 x.exc]
theorem part_any (x : Pt) (m : Int) (w : World) : Calls Try.prog 78 #[pval x, .int .i64 m] w fun e w' => e = .returned (.int .i64 (cmpI x.frm m)) ∧ Below w.heap.size w w' := by
  have C := Lib.hid (fun W => cmp_any x.frm m W)
  have B0 := Lib.hid (alloc_below w (.cells #[.int .i64 x.frm, .int .i64 x.bef, .int .i64 x.exc] 109))
  unfold pval
  generalize cmpI x.frm m = z at *
  go_enter Try.func78, Try.ntmps78
  go_wp2_with fail
  refine (C.out _).mono ?_
  rintro e w1 ⟨rfl, rfl⟩
  go_wp2
  go_ret
  exact ⟨rfl, B0.out⟩
theorem cmp_lt (x y : Int) : cmpI x y < 0 ↔ x < y := by
  unfold cmpI
  split
  · omega
  · split <;> omega
/-- What is found of parts ahead of a minute. -/
def Found (P : List Pt) (m : Int) (w : World) (e : Ending) (w' : World) : Prop := ∃ (k : Nat) (b : Bool), e = .returned (.tuple #[.int .i64 (k : Int), .bool b]) ∧ Ahd P m k ∧ Below w.heap.size w w'
set_option maxRecDepth 100000 in
set_option maxHeartbeats 2000000 in
theorem search_any (p : Option Addr) (n c : Nat) (P : List Pt) (m : Int) (w : World) (hA : Rw 3 pcells w p n P) (hR : Rise P) (hn : n ≤ 1000000000) (hc : n ≤ c) :
    Calls Try.prog 77 #[.slice p n c, .int .i64 m, .func (.func 78) #[] #[]] w (Found P m w) := by
  have C := Lib.hid (fun x W => part_any x m W)
  have HA := Lib.hid hA
  have HR := Lib.hid hR
  have HL := Lib.hid hA.1
  have hn' : (n : Int) ≤ 1000000000 := by omega
  have EG := enter_of Try.func78 (by kernel_rfl) (by kernel_rfl)
  clear hA hR
  go_enter Try.func77, Try.ntmps77
  go_wp2
  go_loopw [9, 10] (fun vi vj wr => ∃ (i j : Nat), i ≤ j ∧ j ≤ n ∧ vi = .int .i64 i ∧ vj = .int .i64 j ∧ Hid (∀ k x, P[k]? = some x → (k < i → x.frm < m) ∧ (j ≤ k → m ≤ x.frm)) ∧ Hid (Below w.heap.size w wr)) (fun vi vj _ => ((RowKit.intOf vj) - (RowKit.intOf vi)).toNat)
  case atStart => exact ⟨0, n, Nat.zero_le _, Nat.le_refl _, rfl, rfl, Lib.hid (fun k x hx => ⟨fun h => by omega, fun h => by have := (List.getElem?_eq_some_iff.1 hx).1; have := HL.out; omega⟩), Lib.hid (Below.refl _ _)⟩
  case round =>
    obtain ⟨i, j, hij, hjn, rfl, rfl, HI, HB⟩ := hrel
    have hjn' : (j : Int) ≤ (n : Int) := by omega
    by_cases hlt : i < j
    · have hlt' : (i : Int) < (j : Int) := by omega
      obtain ⟨h, hh, hh1, hh2⟩ : ∃ h : Nat, ((i : Int) + (j : Int)) / 2 = (h : Int) ∧ i ≤ h ∧ h < j := ⟨(i + j) / 2, by omega, by omega, by omega⟩
      have hhn : (h : Int) < (n : Int) := by omega
      obtain ⟨x, hx⟩ : ∃ x, P[h]? = some x := ⟨_, List.getElem?_eq_getElem (by rw [HL.out]; omega)⟩
      obtain ⟨b, o, rfl, hcl⟩ := (HA.out.keep pcells_len HB.out).2 (by omega)
      have e0 : wr.cell? ⟨b, o + h * 3, none⟩ = some (.int .i64 x.frm) := hcl h x hx 0 (by decide)
      have e1 : wr.cell? ⟨b, o + h * 3 + 1, none⟩ = some (.int .i64 x.bef) := hcl h x hx 1 (by decide)
      have e2 : wr.cell? ⟨b, o + h * 3 + 2, none⟩ = some (.int .i64 x.exc) := hcl h x hx 2 (by decide)
      have CX := Lib.hid (C.out x wr)
      have HX := Lib.hid hx
      have hhc : (h : Int) < (c : Int) := by omega
      unfold pval at CX
      clear hcl hx
      go_wp2_with fail
      refine CX.out.mono ?_
      rintro e w2 ⟨rfl, hb⟩
      have HB2 := Lib.hid (HB.out.trans (hb.mono HB.out.size))
      clear hb HB e0 e1 e2 CX
      have CL := cmp_lt x.frm m
      by_cases hz : x.frm < m
      · have t0 : decide (cmpI x.frm m < 0) = true := by simpa using CL.2 hz
        have HI2 := Lib.hid (show ∀ k y, P[k]? = some y → (k < h + 1 → y.frm < m) ∧ (j ≤ k → m ≤ y.frm) from fun k y hy => ⟨fun hk => by
          by_cases hkh : k < h
          · have := HR.out k h y x hy HX.out hkh
            omega
          · obtain rfl : k = h := by omega
            rw [HX.out] at hy
            cases hy
            exact hz, (HI.out k y hy).2⟩)
        clear HI CL
        generalize cmpI x.frm m = z at *
        go_wp2
        go_roundw
        case rel => exact ⟨h + 1, j, by omega, hjn, by go_num, rfl, HI2, HB2⟩
        case measure => simp [RowKit.intOf]; omega
      · have t0 : decide (cmpI x.frm m < 0) = false := by simp; omega
        have HI2 := Lib.hid (show ∀ k y, P[k]? = some y → (k < i → y.frm < m) ∧ (h ≤ k → m ≤ y.frm) from fun k y hy => ⟨(HI.out k y hy).1, fun hk => by
          by_cases hkh : h < k
          · have := HR.out h k x y HX.out hy hkh
            omega
          · obtain rfl : k = h := by omega
            rw [HX.out] at hy
            cases hy
            omega⟩)
        clear HI CL
        generalize cmpI x.frm m = z at *
        go_wp2
        go_roundw
        case rel => exact ⟨i, h, by omega, by omega, rfl, rfl, HI2, HB2⟩
        case measure => simp [RowKit.intOf]; omega
    · obtain rfl : i = j := by omega
      have AH := Lib.hid (show Ahd P m i from ⟨by have := HL.out; omega, fun k x hx => HI.out k x hx⟩)
      by_cases hin : i < n
      · have hin' : (i : Int) < (n : Int) := by omega
        obtain ⟨x, hx⟩ : ∃ x, P[i]? = some x := ⟨_, List.getElem?_eq_getElem (by rw [HL.out]; exact hin)⟩
        obtain ⟨b, o, rfl, hcl⟩ := (HA.out.keep pcells_len HB.out).2 (by omega)
        have e0 : wr.cell? ⟨b, o + i * 3, none⟩ = some (.int .i64 x.frm) := hcl i x hx 0 (by decide)
        have e1 : wr.cell? ⟨b, o + i * 3 + 1, none⟩ = some (.int .i64 x.bef) := hcl i x hx 1 (by decide)
        have e2 : wr.cell? ⟨b, o + i * 3 + 2, none⟩ = some (.int .i64 x.exc) := hcl i x hx 2 (by decide)
        have CX := Lib.hid (C.out x wr)
        have hic : (i : Int) < (c : Int) := by omega
        unfold pval at CX
        clear hcl hx HI
        go_wp2_with fail
        refine CX.out.mono ?_
        rintro e w2 ⟨rfl, hb⟩
        have HB2 := Lib.hid (HB.out.trans (hb.mono HB.out.size))
        clear hb HB e0 e1 e2 CX
        go_wp2
        go_ret2
        exact ⟨i, _, rfl, AH.out, HB2.out⟩
      · have hin' : ¬ (i : Int) < (n : Int) := by omega
        clear HI
        go_wp2
        go_ret2
        exact ⟨i, _, rfl, AH.out, HB.out⟩
/-- An index at a block: its series, its limit, its parts, up to where they are known. -/
structure Idx (w : World) (B h h0 : Nat) (F0 : Nat → Prop) (v : Value) (P : List Pt) (kn wo ga li : Int) (S : List Rd) : Prop where
  low : B ≤ h
  box : Lies w h 102 #[.pointer (some ⟨h0, 0, none⟩), .int .i64 li, v, .int .i64 kn]
  ser : PSF w B h0 F0 wo ga S
  row : w.ownsRow B 109 3 v P.length (P.flatMap pcells)
  out : ¬ F0 h
  far : ∀ k, v.ownBlock = some k → k ≠ h ∧ ¬ F0 k
  rk : Rec (exm wo ga li S) P kn
/-- Its memory. -/
def Own3 (h : Nat) (F0 : Nat → Prop) (v : Value) (k : Nat) : Prop := k = h ∨ F0 k ∨ v.ownBlock = some k
theorem Idx.turn {w w' : World} {B h h0 : Nat} {F0 T : Nat → Prop} {v : Value} {P : List Pt} {kn wo ga li : Int} {S : List Rd} (hp : Idx w B h h0 F0 v P kn wo ga li S) (ht : Turn T w w') (hs : ∀ k, Own3 h F0 v k → ¬ T k) : Idx w' B h h0 F0 v P kn wo ga li S :=
  ⟨hp.low, hp.box.turn ht (hs _ (.inl rfl)), face.turn hp.ser ht (fun k hk => hs k (.inr (.inl hk))), own_turn hp.row ht (fun k hk => hs k (.inr (.inr hk))), hp.out, hp.far, hp.rk⟩
theorem Idx.keep {w w' : World} {B h h0 : Nat} {F0 : Nat → Prop} {v : Value} {P : List Pt} {kn wo ga li : Int} {S : List Rd} (hp : Idx w B h h0 F0 v P kn wo ga li S) (hb : Below w.heap.size w w') : Idx w' B h h0 F0 v P kn wo ga li S :=
  hp.turn (T := fun _ => False) (Turn.of_below hb) (fun _ _ hf => hf)
theorem Idx.foot {w : World} {B h h0 k : Nat} {F0 : Nat → Prop} {v : Value} {P : List Pt} {kn wo ga li : Int} {S : List Rd} (hp : Idx w B h h0 F0 v P kn wo ga li S) (hk : Own3 h F0 v k) : B ≤ k ∧ k < w.heap.size := by
  rcases hk with rfl | hk | hk
  · exact ⟨hp.low, hp.box.lt⟩
  · exact face.foot hp.ser hk
  · exact own_lt hp.row hk
theorem rec_len {f : Int → Int} {P : List Pt} {kn : Int} (h : Rec f P kn) : P.length ≤ 1048576 := by
  have key : ∀ (n : Nat) (x : Pt), P[n]? = some x → (n : Int) ≤ x.frm := by
    intro n
    induction n with
    | zero =>
      intro x hx
      exact (h.inn _ _ hx).1
    | succ n ih =>
      intro x hx
      have hlt := (List.getElem?_eq_some_iff.1 hx).1
      obtain ⟨y, hy⟩ : ∃ y, P[n]? = some y := ⟨_, List.getElem?_eq_getElem (by omega)⟩
      have h1 := ih y hy
      have h2 := h.rise n (n + 1) y x hy hx (by omega)
      omega
  by_cases h0 : P.length = 0
  · omega
  · obtain ⟨x, hx⟩ : ∃ x, P[P.length - 1]? = some x := ⟨_, List.getElem?_eq_getElem (by omega)⟩
    have h1 := key _ _ hx
    have h2 := h.inn _ _ hx
    have h3 := h.hi
    omega
/-- How many parts begin ahead of a minute. -/
def Ahead (P : List Pt) (m : Int) (w : World) (e : Ending) (w' : World) : Prop := ∃ k : Nat, e = .returned (.int .i64 (k : Int)) ∧ Ahd P m k ∧ Below w.heap.size w w'
theorem ahead_any (B h h0 : Nat) (F0 : Nat → Prop) (v : Value) (P : List Pt) (kn wo ga li : Int) (S : List Rd) (m : Int) (w : World) (hp : Idx w B h h0 F0 v P kn wo ga li S) :
    Calls Try.prog 72 #[.pointer (some ⟨h, 0, none⟩), .int .i64 m] w (Ahead P m w) := by
  obtain ⟨q, d, rfl, hd, hA⟩ := rw_own pcells_len hp.row
  have c2 : w.cell? ⟨h, 2, none⟩ = some (.slice q P.length d) := hp.box.cell 2
  have hl := rec_len hp.rk
  have C := Lib.hid (search_any q P.length d P m w hA hp.rk.rise (by omega) hd)
  clear hp hA
  go_enter Try.func72, Try.ntmps72
  go_wp2_with fail
  refine C.out.mono ?_
  rintro e w1 ⟨k, b, rfl, ha, hb⟩
  have A1 := Lib.hid ha
  have B1 := Lib.hid hb
  clear ha hb C
  go_wp2
  go_ret
  exact ⟨k, rfl, A1.out, B1.out⟩
end Ex
end Go.Proofs.Ytehiclmkdpcplaa

namespace Go.Proofs.Ytehiclmkdpcplaa
open Go.RowKit

/-- Only where it goes on. -/
def Only (Q : Exit → Act → World → Prop) : Exit → Act → World → Prop
  | .normal, a, w => Q .normal a w
  | _, _, _ => False
theorem Only.imp {Q : Exit → Act → World → Prop} : ∀ (e : Exit) (a : Act) (w : World), Only Q e a w → Q e a w := fun e a w h => by
  cases e <;> first | exact h | exact (h : False).elim
theorem Only.lets {Q : Exit → Act → World → Prop} : ¬ LetsOut (Only Q) := fun ⟨_, _, h⟩ => h
/-- Does no operation defer a call? -/
def noDefer (ops : Array Oper) : Bool := ops.all fun o => match o.op with
  | .defer _ => false
  | _ => true
theorem noDefer_spec {ops : Array Oper} (h : noDefer ops = true) (i : Nat) (o : Oper) (ho : ops[i]? = some o) : ∀ c, o.op ≠ .defer c := by
  intro c e
  obtain ⟨hi, rfl⟩ := Array.getElem?_eq_some_iff.1 ho
  have := Array.all_eq_true.1 h i hi
  rw [e] at this
  cases this
section
variable {P : Program} {ops : Array Oper} {Q : Exit → Act → World → Prop} {md : Region.Mode} {l n : Nat}
theorem op_round {o : Oper} {a : Act} {w : World} {K : Act → World → Prop} (hd : ∀ c, o.op ≠ .defer c) (h : o.wp P a w K (Only Q)) : o.wpIn (Fence.wide.inRound l) n P a w K (Only Q) := by
  unfold Oper.wpIn
  refine ⟨fun _ _ => trivial, ?_⟩
  rw [show (Fence.wide.inRound l).round = some l from rfl, Oper.semAt_some l _ _ hd]
  unfold Oper.wp at h
  generalize (execOp a.eval o).run P w = r at *
  cases r with
  | ok x w' =>
    cases x <;> simp only [Oper.upon] at h <;> simp only [Oper.uponIn]
    case value v => exact h
    case skip => exact h
    case defer d => exact h
    case enter f args => exact ⟨fun hh => Bool.noConfusion hh, (CallsIn.inRound l (callsIn_wide.2 h)).mono fun e w'' he => by cases e <;> exact he⟩
    case row row args => exact ⟨fun hh => Bool.noConfusion hh, fun c cs _ => let ⟨v, w', r, s⟩ := h c cs; ⟨v, w', r, stepsIn_wide.2 s⟩⟩
  | halt x w' => cases x <;> simp only [Oper.upon] at h <;> simp only [Oper.uponIn] <;> exact h
theorem any_round (hd : noDefer ops = true) : ∀ (fuel : Nat) (listed : Array Bool) (a : Act) (w : World), wpAny P md ops (Only Q) fuel listed a w → wpAnyIn (Fence.wide.inRound l) n P md ops (Only Q) fuel listed a w
  | 0, _, _, _, h => h
  | fuel + 1, listed, a, w, h => ⟨h.1, fun i hi => by
    have h := h.2 i hi
    unfold wpOp at h
    unfold wpOpIn
    cases ho : ops[i]? with
    | none =>
      simp only [ho] at h ⊢
      exact any_round hd fuel _ _ _ h
    | some o =>
      simp only [ho] at h ⊢
      by_cases hw : Region.wanted o (yielded ops a.tmps) = true
      · simp only [hw, if_true] at h ⊢
        rcases h with h | h
        · exact Oper.wpIn_mono (fun a w h => any_round hd fuel _ a w h) (op_round (noDefer_spec hd i o ho) h)
        · exact absurd h.2 Only.lets
      · simp only [hw, if_false, Bool.false_eq_true] at h ⊢
        exact ⟨fun _ _ => trivial, any_round hd fuel _ _ _ h⟩⟩
/-- A region that draws its order, in a round. -/
theorem round_any {id : Nat} {a : Act} {w : World} (hm : P.follows .mixedOrders = true) (hd : noDefer ops = true) (h : wpAny P .any ops (Only Q) ops.size (Array.replicate ops.size false) a w.drew) :
    (Code.region id ops true).wpIn (Fence.wide.inRound l) n P Q a w :=
  wpIn_mono (wpIn_region_any hm (any_round hd _ _ _ _ h)) Only.imp
/-- The same, where a condition is kept. -/
theorem round_held {id : Nat} {a : Act} {w : World} (S : World → Prop) (hm : P.follows .mixedOrders = true) (hd : noDefer ops = true) (hS : S w.drew)
    (h : S w.drew → wpAnyH P .any ops (Only Q) S ops.size (Array.replicate ops.size false) a w.drew) : (Code.region id ops true).wpIn (Fence.wide.inRound l) n P Q a w :=
  round_any hm hd (wpAny_of_held _ _ _ _ (h hS))
/-- All have come up. -/
theorem held_done {S : World → Prop} {listed : Array Bool} {a : Act} {w : World} {fuel : Nat} (hr : Region.ready md ops listed = []) (h : Q .normal a w) : wpAnyH P md ops (Only Q) S fuel listed a w := wpAnyH_done (Q := Only Q) hr h fuel
/-- One operation comes up, and no other one. -/
theorem held_one {S : World → Prop} {listed : Array Bool} {a : Act} {w : World} {fuel i : Nat} {o : Oper} (hr : Region.ready md ops listed = [i]) (ho : ops[i]? = some o)
    (h : ∀ K' : Act → World → Prop, Shut (∀ a w, S w → (S w → wpAnyH P md ops Q S fuel (listed.setIfInBounds i true) a w) → K' a w) → if Region.wanted o (yielded ops a.tmps) = true then Oper.wp P o a w K' Q else K' (a.put o.dst undef) w) :
    wpAnyH P md ops Q S (fuel + 1) listed a w := wpAnyH_ready hr (by simp) (AllReadyH.cons ho h AllReadyH.nil)
/-- One of two comes up. -/
theorem held_two {S : World → Prop} {listed : Array Bool} {a : Act} {w : World} {fuel i j : Nat} {o o' : Oper} (hr : Region.ready md ops listed = [i, j]) (ho : ops[i]? = some o) (ho' : ops[j]? = some o')
    (h : ∀ K' : Act → World → Prop, Shut (∀ a w, S w → (S w → wpAnyH P md ops Q S fuel (listed.setIfInBounds i true) a w) → K' a w) → if Region.wanted o (yielded ops a.tmps) = true then Oper.wp P o a w K' Q else K' (a.put o.dst undef) w)
    (h' : ∀ K' : Act → World → Prop, Shut (∀ a w, S w → (S w → wpAnyH P md ops Q S fuel (listed.setIfInBounds j true) a w) → K' a w) → if Region.wanted o' (yielded ops a.tmps) = true then Oper.wp P o' a w K' Q else K' (a.put o'.dst undef) w) :
    wpAnyH P md ops Q S (fuel + 1) listed a w := wpAnyH_ready hr (by simp) (AllReadyH.cons ho h (AllReadyH.cons ho' h' AllReadyH.nil))
/-- A call of a Go function comes up. -/
theorem held_call {o : Oper} {a : Act} {w : World} {K : Act → World → Prop} {E : Prop} {f : FuncId} {args : Array Value} {R : Ending → World → Prop} (hg : o.guard = none) (hx : (execOp a.eval o).run P w = .ok (.enter f args) w)
    (hc : Calls P f args w R) (h : ∀ e w', R e w' → ∃ v, e = .returned v ∧ K (a.put o.dst v) w') : if Region.wanted o (yielded ops a.tmps) = true then Oper.wp P o a w K Q else E := by
  have hw : Region.wanted o (yielded ops a.tmps) = true := by simp [Region.wanted, hg]
  rw [if_pos hw]
  unfold Oper.wp
  rw [hx]
  refine hc.mono fun e w' he => ?_
  obtain ⟨v, rfl, hk⟩ := h e w' he
  exact hk
/-- An operation that yields a value comes up. -/
theorem held_value {o : Oper} {a : Act} {w w' : World} {v : Value} {K : Act → World → Prop} {E : Prop} (hg : o.guard = none) (hx : (execOp a.eval o).run P w = .ok (.value v) w') (h : K (a.put o.dst v) w') : if Region.wanted o (yielded ops a.tmps) = true then Oper.wp P o a w K Q else E := by
  have hw : Region.wanted o (yielded ops a.tmps) = true := by simp [Region.wanted, hg]
  rw [if_pos hw]
  unfold Oper.wp
  rw [hx]
  exact h
end
section
variable {P : Program} {ops : Array Oper} {Q : Exit → Act → World → Prop} {md : Region.Mode} {S : World → Prop} {N : Nat}
/-- Whatever order is picked from here on; a condition is kept by the operations ahead of number N alone. -/
def anyT (P : Program) (md : Region.Mode) (ops : Array Oper) (Q : Exit → Act → World → Prop) (S : World → Prop) (N : Nat) : Nat → Array Bool → Act → World → Prop
  | 0, listed, a, w => Region.ready md ops listed = [] ∧ Q .normal a w
  | f + 1, listed, a, w => (Region.ready md ops listed = [] → Q .normal a w) ∧
    ∀ i ∈ Region.ready md ops listed, wpOp P ops Q i (fun a' w' => (i < N → S w') ∧ anyT P md ops Q S N f (listed.setIfInBounds i true) a' w') a w
theorem any_of_T : ∀ (f : Nat) (listed : Array Bool) (a : Act) (w : World), anyT P md ops Q S N f listed a w → wpAny P md ops Q f listed a w
  | 0, _, _, _, h => h
  | f + 1, _, _, _, h => ⟨h.1, fun i hi => wpOp_mono (fun a' w' h' => any_of_T f _ a' w' h'.2) (h.2 i hi)⟩
/-- Does number j wait for number i, in so many steps? -/
def reachB (md : Region.Mode) (ops : Array Oper) : Nat → Nat → Nat → Bool
  | 0, _, _ => false
  | f + 1, j, i => match ops[j]? with
    | some oj => oj.after.any fun e => Region.binds md e && (e.on == i || reachB md ops f e.on i)
    | none => false
/-- Do all operations from number N on wait for number i? -/
def allWait (md : Region.Mode) (ops : Array Oper) (N i : Nat) : Bool := decide (i < N) && (List.range ops.size).all fun j => decide (j < N) || reachB md ops ops.size j i
/-- Of whatever has come up, has come up what it waits for? -/
def Shutt (md : Region.Mode) (ops : Array Oper) (listed : Array Bool) : Prop := ∀ j oj, ops[j]? = some oj → listed.getD j false = true → ∀ e ∈ oj.after, Region.binds md e = true → listed.getD e.on false = true
def shutB (md : Region.Mode) (ops : Array Oper) (listed : Array Bool) : Bool := (List.range ops.size).all fun j => !listed.getD j false || match ops[j]? with
  | some oj => oj.after.all fun e => !Region.binds md e || listed.getD e.on false
  | none => true
theorem shut_of {listed : Array Bool} (h : shutB md ops listed = true) : Shutt md ops listed := fun j oj hj hl e he hb => by
  have h1 := List.all_eq_true.1 h j (List.mem_range.2 (Array.getElem?_eq_some_iff.1 hj).1)
  rw [hl, hj, Bool.not_true, Bool.false_or] at h1
  have h2 := Array.all_eq_true'.1 h1 e he
  simpa [hb] using h2
theorem Shutt.set {listed : Array Bool} {i : Nat} (h : Shutt md ops listed) (hi : i ∈ Region.ready md ops listed) : Shutt md ops (listed.setIfInBounds i true) := fun j oj hj hl e he hb => by
  obtain ⟨_, oi, hoi, hall⟩ := mem_ready.1 hi
  by_cases e1 : i = j
  · subst e1
    rw [hoi] at hj
    cases hj
    exact getD_set_true (hall e he hb)
  · rw [getD_set_ne false e1] at hl
    exact getD_set_true (h j oj hj hl e he hb)
theorem reach_listed {listed : Array Bool} (h : Shutt md ops listed) {i : Nat} : ∀ (f j : Nat), reachB md ops f j i = true → listed.getD j false = true → listed.getD i false = true
  | 0, _, hr, _ => by cases hr
  | f + 1, j, hr, hl => by
    unfold reachB at hr
    cases hj : ops[j]? with
    | none =>
      rw [hj] at hr
      cases hr
    | some oj =>
      rw [hj] at hr
      obtain ⟨e, he, h1⟩ := Array.any_eq_true'.1 hr
      simp only [Bool.and_eq_true, Bool.or_eq_true, beq_iff_eq] at h1
      have h2 := h j oj hj hl e he h1.1
      rcases h1.2 with rfl | h3
      · exact h2
      · exact reach_listed h f _ h3 h2
theorem ahead_of {i j : Nat} {listed : Array Bool} (hc : Shutt md ops listed) (h : allWait md ops N i = true) (hj : j ∈ Region.ready md ops listed) (hi : listed.getD i true = false) : j < N := by
  simp only [allWait, Bool.and_eq_true] at h
  obtain ⟨hju, oj, hoj, hall⟩ := mem_ready.1 hj
  have hlt : j < ops.size := (Array.getElem?_eq_some_iff.1 hoj).1
  have h2 := List.all_eq_true.1 h.2 j (List.mem_range.2 hlt)
  rw [Bool.or_eq_true] at h2
  rcases h2 with h2 | h2
  · simpa using h2
  · have h3 := reach_listed (i := i) (hc.set hj) _ j h2 (by
      have : j < listed.size := by
        rcases Nat.lt_or_ge j listed.size with h' | h'
        · exact h'
        · simp [Array.getElem?_eq_none h'] at hju
      simp [this])
    by_cases e : j = i
    · subst e
      simpa using h.1
    · rw [getD_set_ne false e, getD_both hi] at h3
      cases h3
/-- An operation that may come up, and reads alone, is taken first. -/
theorem takeT_from {i : Nat} {oi : Oper} {v : Value} (hi : ops[i]? = some oi) (hs : Region.noSelect ops = true) (hw : allWait md ops N i = true) (hQ : ∀ c a w, Q (.panic c) (a.put oi.dst v) w → Q (.panic c) a w) :
    ∀ (f : Nat) (listed : Array Bool) (a : Act) (w : World), Shutt md ops listed → (∀ j oj, ops[j]? = some oj → j ≠ i → listed.getD j true = false → (∀ e ∈ oj.after, Region.binds md e = true → e.on ≠ i) → oi.apart ops oj = true) →
      i ∈ Region.ready md ops listed → YieldsIf P ops S oi v a → S w → anyT P md ops Q S N f (listed.setIfInBounds i true) (a.put oi.dst v) w → anyT P md ops Q S N (f + 1) listed a w := by
  intro f
  induction f with
  | zero =>
    intro listed a w _ _ hr hy hS H
    refine ⟨fun h => (by rw [h] at hr; cases hr), fun j hj => ?_⟩
    by_cases e : j = i
    · cases e
      exact hy.wpOp hi hS ⟨fun _ => hS, H⟩
    · have h1 := ready_mono hj e
      rw [H.1] at h1
      cases h1
  | succ f ih =>
    intro listed a w hc hfree hr hy hS H
    refine ⟨fun h => (by rw [h] at hr; cases hr), fun j hj => ?_⟩
    by_cases e : j = i
    · cases e
      exact hy.wpOp hi hS ⟨fun _ => hS, H⟩
    · obtain ⟨hju, oj, hoj, hall⟩ := mem_ready.1 hj
      have hiu := (mem_ready.1 hr).1
      have hjN := ahead_of hc hw hj hiu
      have hon : ∀ d ∈ oj.after, Region.binds md d = true → d.on ≠ i := fun d hd hb he => by
        have h1 := hall d hd hb
        rw [he, getD_both hiu] at h1
        cases h1
      have h1 := wpOp_putIf hoj (hfree j oj hoj e hju hon) (fun cs b => Region.noSelect_spec hs i oi cs b hi) (fun cs b => Region.noSelect_spec hs j oj cs b hoj) hQ hy (H.2 j (ready_mono hj e))
      refine wpOp_mono (fun a' w' h2 => ⟨h2.2.1, ih _ a' w' (hc.set hj) (fun k ok hk hki hku hko => hfree k ok hk hki ?_ hko) (ready_mono hr (Ne.symm e)) h2.1 (h2.2.1 hjN) ?_⟩) h1
      · by_cases ejk : j = k
        · cases ejk
          exact hju
        · rwa [getD_set_ne true ejk] at hku
      · rw [Array.setIfInBounds_comm _ _ e]
        exact h2.2.2
theorem takeT {i : Nat} {oi : Oper} {v : Value} {f : Nat} {listed : Array Bool} {a : Act} {w : World} (hi : ops[i]? = some oi)
    (hs : Region.noSelect ops = true) (hw : allWait md ops N i = true) (hc : shutB md ops listed = true) (hf : Region.free md ops listed i = true) (hr : (Region.ready md ops listed).contains i = true)
    (hQ : ∀ c a w, Q (.panic c) (a.put oi.dst v) w → Q (.panic c) a w) (hy : YieldsIf P ops S oi v a) (hS : S w)
    (h : anyT P md ops Q S N f (listed.setIfInBounds i true) (a.put oi.dst v) w) : anyT P md ops Q S N (f + 1) listed a w :=
  takeT_from hi hs hw hQ f listed a w (shut_of hc) (Region.free_spec hi hf) (by simpa using hr) hy hS h
/-- One operation comes up, and no other one. -/
theorem oneT {listed : Array Bool} {a : Act} {w : World} {f i : Nat} {o : Oper} (hr : Region.ready md ops listed = [i]) (ho : ops[i]? = some o)
    (h : ∀ K' : Act → World → Prop, Shut (∀ a w, (i < N → S w) → anyT P md ops Q S N f (listed.setIfInBounds i true) a w → K' a w) → if Region.wanted o (yielded ops a.tmps) = true then Oper.wp P o a w K' Q else K' (a.put o.dst undef) w) :
    anyT P md ops Q S N (f + 1) listed a w :=
  ⟨fun h0 => (by rw [hr] at h0; cases h0), fun j hj => by
    rw [hr] at hj
    obtain rfl : j = i := by simpa using hj
    exact wpOp_step ho (fun K' hK => h K' (fun a w h1 h2 => hK a w ⟨h1, h2⟩))⟩
/-- One of two comes up. -/
theorem twoT {listed : Array Bool} {a : Act} {w : World} {f i j : Nat} {o o' : Oper} (hr : Region.ready md ops listed = [i, j]) (ho : ops[i]? = some o) (ho' : ops[j]? = some o')
    (h : ∀ K' : Act → World → Prop, Shut (∀ a w, (i < N → S w) → anyT P md ops Q S N f (listed.setIfInBounds i true) a w → K' a w) → if Region.wanted o (yielded ops a.tmps) = true then Oper.wp P o a w K' Q else K' (a.put o.dst undef) w)
    (h' : ∀ K' : Act → World → Prop, Shut (∀ a w, (j < N → S w) → anyT P md ops Q S N f (listed.setIfInBounds j true) a w → K' a w) → if Region.wanted o' (yielded ops a.tmps) = true then Oper.wp P o' a w K' Q else K' (a.put o'.dst undef) w) :
    anyT P md ops Q S N (f + 1) listed a w :=
  ⟨fun h0 => (by rw [hr] at h0; cases h0), fun k hk => by
    rw [hr] at hk
    rcases (show k = i ∨ k = j by simpa using hk) with rfl | rfl
    · exact wpOp_step ho (fun K' hK => h K' (fun a w h1 h2 => hK a w ⟨h1, h2⟩))
    · exact wpOp_step ho' (fun K' hK => h' K' (fun a w h1 h2 => hK a w ⟨h1, h2⟩))⟩
theorem doneT {listed : Array Bool} {a : Act} {w : World} (hr : Region.ready md ops listed = []) (h : Q .normal a w) : ∀ f, anyT P md ops Q S N f listed a w
  | 0 => ⟨hr, h⟩
  | _ + 1 => ⟨fun _ => h, by rw [hr]; simp⟩
theorem doneO {listed : Array Bool} {a : Act} {w : World} (hr : Region.ready md ops listed = []) (h : Q .normal a w) (f : Nat) : anyT P md ops (Only Q) S N f listed a w := doneT (Q := Only Q) hr h f
/-- Behind all operations that keep the condition it is asked no more. -/
theorem laterT (M : Nat) : ∀ (f : Nat) (listed : Array Bool) (a : Act) (w : World), ((List.range N).all fun i => listed.getD i true) = true → anyT P md ops Q (fun _ => True) M f listed a w → anyT P md ops Q S N f listed a w
  | 0, _, _, _, _, h => h
  | f + 1, listed, a, w, hl, h => ⟨h.1, fun i hi => wpOp_mono (fun a' w' h' => ⟨fun hiN => (by
      have h1 := (mem_ready.1 hi).1
      have h2 := List.all_eq_true.1 hl i (List.mem_range.2 hiN)
      rw [h1] at h2
      cases h2), laterT M f _ a' w' (List.all_eq_true.2 fun k hk => by
        have h2 := List.all_eq_true.1 hl k hk
        by_cases e : i = k
        · cases e
          have h1 := (mem_ready.1 hi).1
          rw [h1] at h2
          cases h2
        · rwa [getD_set_ne true e]) h'.2⟩) (h.2 i hi)⟩
/-- Behind all operations that keep the condition another one is asked. -/
theorem laterS (S2 : World → Prop) (M : Nat) : ∀ (f : Nat) (listed : Array Bool) (a : Act) (w : World), ((List.range N).all fun i => listed.getD i true) = true → anyT P md ops Q S2 M f listed a w → anyT P md ops Q S N f listed a w
  | 0, _, _, _, _, h => h
  | f + 1, listed, a, w, hl, h => ⟨h.1, fun i hi => wpOp_mono (fun a' w' h' => ⟨fun hiN => (by
      have h1 := (mem_ready.1 hi).1
      have h2 := List.all_eq_true.1 hl i (List.mem_range.2 hiN)
      rw [h1] at h2
      cases h2), laterS S2 M f _ a' w' (List.all_eq_true.2 fun k hk => by
        have h2 := List.all_eq_true.1 hl k hk
        by_cases e : i = k
        · cases e
          have h1 := (mem_ready.1 hi).1
          rw [h1] at h2
          cases h2
        · rwa [getD_set_ne true e]) h'.2⟩) (h.2 i hi)⟩
/-- The same moves, the operations written out. -/
theorem takeL {l : List Oper} {i : Nat} {oi : Oper} {v : Value} {f : Nat} {listed : Array Bool} {a : Act} {w : World} (hi : l[i]? = some oi)
    (hs : Region.noSelect l.toArray = true) (hw : allWait md l.toArray N i = true) (hc : shutB md l.toArray listed = true) (hf : Region.free md l.toArray listed i = true) (hr : (Region.ready md l.toArray listed).contains i = true)
    (hQ : ∀ c a w, Q (.panic c) (a.put oi.dst v) w → Q (.panic c) a w) (hy : YieldsIf P l.toArray S oi v a) (hS : S w)
    (h : anyT P md l.toArray Q S N f (listed.setIfInBounds i true) (a.put oi.dst v) w) : anyT P md l.toArray Q S N (f + 1) listed a w :=
  takeT (by simpa using hi) hs hw hc hf hr hQ hy hS h
theorem oneL {l : List Oper} {listed : Array Bool} {a : Act} {w : World} {f i : Nat} {o : Oper} (hr : Region.ready md l.toArray listed = [i]) (ho : l[i]? = some o)
    (h : ∀ K' : Act → World → Prop, Shut (∀ a w, (i < N → S w) → anyT P md l.toArray Q S N f (listed.setIfInBounds i true) a w → K' a w) → if Region.wanted o (yielded l.toArray a.tmps) = true then Oper.wp P o a w K' Q else K' (a.put o.dst undef) w) :
    anyT P md l.toArray Q S N (f + 1) listed a w := oneT hr (by simpa using ho) h
theorem twoL {l : List Oper} {listed : Array Bool} {a : Act} {w : World} {f i j : Nat} {o o' : Oper} (hr : Region.ready md l.toArray listed = [i, j]) (ho : l[i]? = some o) (ho' : l[j]? = some o')
    (h : ∀ K' : Act → World → Prop, Shut (∀ a w, (i < N → S w) → anyT P md l.toArray Q S N f (listed.setIfInBounds i true) a w → K' a w) → if Region.wanted o (yielded l.toArray a.tmps) = true then Oper.wp P o a w K' Q else K' (a.put o.dst undef) w)
    (h' : ∀ K' : Act → World → Prop, Shut (∀ a w, (j < N → S w) → anyT P md l.toArray Q S N f (listed.setIfInBounds j true) a w → K' a w) → if Region.wanted o' (yielded l.toArray a.tmps) = true then Oper.wp P o' a w K' Q else K' (a.put o'.dst undef) w) :
    anyT P md l.toArray Q S N (f + 1) listed a w := twoT hr (by simpa using ho) (by simpa using ho') h h'
/-- A region that draws its order. -/
theorem region_T {id : Nat} {a : Act} {w : World} (N : Nat) (S : World → Prop) (hm : P.follows .mixedOrders = true) (hS : S w.drew)
    (h : S w.drew → anyT P .any ops (Only Q) S N ops.size (Array.replicate ops.size false) a w.drew) : (Code.region id ops true).wp P Q a w :=
  Code.wp_mono Only.imp (wp_region_any hm (any_of_T _ _ _ _ (h hS)))
/-- The same, in a round. -/
theorem round_T {id l n : Nat} {a : Act} {w : World} (N : Nat) (S : World → Prop) (hm : P.follows .mixedOrders = true) (hd : noDefer ops = true) (hS : S w.drew)
    (h : S w.drew → anyT P .any ops (Only Q) S N ops.size (Array.replicate ops.size false) a w.drew) : (Code.region id ops true).wpIn (Fence.wide.inRound l) n P Q a w :=
  round_any hm hd (any_of_T _ _ _ _ (h hS))
end
/-- A step that turns one block, or none. -/
theorem turn_row {A B : World} {row : Option Nat} (h : A.grownBy B row) : Turn (fun k => row = some k) A B := (Turn.refl _ A).grown h fun _ e => .inl e
theorem grown_of_below {A B : World} (h : Below A.heap.size A B) : A.grownBy B none := ⟨h.os, h.tape, h.output, h.size, fun k hk _ => h.block k hk⟩
/-- What lies in a block is kept where that is another one. -/
theorem Lies.own {A B : World} {g : Nat} {t : TypeId} {cs : Array Value} {row : Option Nat} (h : Lies A g t cs) (hg : A.grownBy B row) (hr : ∀ r, row = some r → ∃ o : Obj, A.heap[r]? = some o ∧ o.isCells = false) : Lies B g t cs :=
  h.grown hg fun e => by
    obtain ⟨o, ho, hc⟩ := hr g e.symm
    rw [show A.heap[g]? = _ from h] at ho
    cases ho
    cases hc
theorem own_own {A B : World} {base : Nat} {e : TypeId} {size n : Nat} {v : Value} {xs : List Value} {row : Option Nat} (h : A.ownsRow base e size v n xs) (hg : A.grownBy B row) (hr : ∀ r, row = some r → ∃ o : Obj, A.heap[r]? = some o ∧ o.isCells = false) : B.ownsRow base e size v n xs := by
  refine ⟨h.1, ?_⟩
  rcases h.2 with h0 | ⟨g, cap, cur, rfl, hb, hh, r⟩
  · exact .inl h0
  · exact .inr ⟨g, cap, cur, rfl, hb, Lies.own hh hg hr, r⟩
/-- A turn of cells alone keeps whatever is no cells. -/
theorem keeps_of_turn {A B : World} {T : Nat → Prop} (h : Turn T A B) (hT : ∀ k, T k → k < A.heap.size → ∃ t cs, Lies A k t cs) : KeepsOthers A B :=
  ⟨h.size, fun k o hk ho => by
    by_cases hs : T k
    · obtain ⟨t, cs, hl⟩ := hT k hs (Array.getElem?_eq_some_iff.1 hk).1
      rw [show A.heap[k]? = _ from hl] at hk
      cases hk
      cases ho
    · exact (h.block k (Array.getElem?_eq_some_iff.1 hk).1 hs).trans hk⟩
end Go.Proofs.Ytehiclmkdpcplaa
