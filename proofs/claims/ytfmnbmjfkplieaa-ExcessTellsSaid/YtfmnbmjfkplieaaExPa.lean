/- What an index has added up already: its parts, in plain words; runs of minutes, one behind the other. No condition but those written. -/
import Derived.Test.YtfmnbmjfkplieaaExNum
import Derived.Test.YtfmnbmjfkplieaaStNum
namespace Go.Proofs.Ytfmnbmjfkplieaa.Ex
open Se

/-- A part: a run of minutes. -/
structure Pt where
  frm : Int
  bef : Int
  exc : Int
/-- How many parts begin ahead of a minute. -/
def Ahd (P : List Pt) (m : Int) (n : Nat) : Prop := n ≤ P.length ∧ ∀ (j : Nat) (x : Pt), P[j]? = some x → (j < n → x.frm < m) ∧ (n ≤ j → m ≤ x.frm)
/-- Parts are in order. -/
def Rise (P : List Pt) : Prop := ∀ (i j : Nat) (x y : Pt), P[i]? = some x → P[j]? = some y → i < j → x.frm < y.frm
/-- Parts reckon what they say, from minute 0 up to one. -/
structure Rec (f : Int → Int) (P : List Pt) (kn : Int) : Prop where
  lo : 0 ≤ kn
  hi : kn ≤ 1048576
  rise : Rise P
  inn : ∀ (j : Nat) (x : Pt), P[j]? = some x → 0 ≤ x.frm ∧ x.frm < kn
  first : 0 < kn → ∃ (j : Nat) (x : Pt), P[j]? = some x ∧ x.frm = 0
  bef : ∀ (j : Nat) (x : Pt), P[j]? = some x → x.bef = run f 0 x.frm.toNat
  exc : ∀ (j : Nat) (x : Pt), P[j]? = some x → ∀ m, x.frm ≤ m → m < kn → (∀ (i : Nat) (y : Pt), P[i]? = some y → x.frm < y.frm → m < y.frm) → f m = x.exc
theorem rec_nil (f : Int → Int) : Rec f [] 0 :=
  ⟨Int.le_refl _, by decide, fun _ _ _ _ h => by simp at h, fun _ _ h => by simp at h, fun h => absurd h (by decide), fun _ _ h => by simp at h, fun _ _ h => by simp at h⟩
theorem rec_zero {f : Int → Int} {P : List Pt} {kn m : Int} (h : Rec f P kn) (ha : Ahd P m 0) (h0 : 0 ≤ m) (hm : m ≤ kn) : m = 0 := by
  by_cases hp : 0 < kn
  · obtain ⟨j, x, hx, h1⟩ := h.first hp
    have := (ha.2 j x hx).2 (Nat.zero_le _)
    omega
  · omega
theorem run_same_from {f : Int → Int} {a c : Int} {k : Nat} (h : ∀ m, a ≤ m → m < a + k → f m = c) : run f a k = c * k :=
  run_same fun j hj => h (a + j) (by omega) (by omega)
theorem rec_sum {f : Int → Int} {P : List Pt} {kn m : Int} {n : Nat} {x : Pt} (h : Rec f P kn) (ha : Ahd P m n) (hn : 0 < n) (hm : m ≤ kn) (hx : P[n - 1]? = some x) :
    0 ≤ x.frm ∧ x.frm < m ∧ x.bef + x.exc * (m - x.frm) = run f 0 m.toNat := by
  have h1 := h.inn _ _ hx
  have h2 := (ha.2 _ _ hx).1 (by omega)
  refine ⟨h1.1, h2, ?_⟩
  have e : m.toNat = x.frm.toNat + (m - x.frm).toNat := by omega
  rw [e, run_add, ← h.bef _ _ hx, run_same_from (c := x.exc) (fun t ht1 ht2 => ?_)]
  · congr 2
    omega
  · refine h.exc _ _ hx t (by omega) (by omega) (fun i y hy hxy => ?_)
    by_cases hi : i ≤ n - 1
    · rcases Nat.lt_or_eq_of_le hi with hi | hi
      · have := h.rise _ _ _ _ hy hx hi
        omega
      · subst hi
        rw [hx] at hy
        cases hy
        omega
    · have := (ha.2 i y hy).2 (by omega)
      omega
theorem rec_cut {f g : Int → Int} {P : List Pt} {kn m : Int} {n : Nat} (h : Rec f P kn) (ha : Ahd P m n) (h0 : 0 ≤ m) (hm : m ≤ 1048576) (hg : ∀ t, t < m → g t = f t) : Rec g (P.take n) (min kn m) := by
  have hi := h.hi
  have lo := h.lo
  have tk : ∀ {j : Nat} {x : Pt}, (P.take n)[j]? = some x → j < n ∧ P[j]? = some x := fun {j x} hj => by
    rw [List.getElem?_take] at hj
    split at hj
    · exact ⟨‹_›, hj⟩
    · cases hj
  have kt : ∀ {j : Nat} {x : Pt}, j < n → P[j]? = some x → (P.take n)[j]? = some x := fun {j x} hj hx => by
    rw [List.getElem?_take, if_pos hj]
    exact hx
  refine ⟨by omega, by omega, fun i j x y hx hy hij => h.rise i j x y (tk hx).2 (tk hy).2 hij, fun j x hx => ?_, fun hp => ?_, fun j x hx => ?_, fun j x hx t h1 h2 h3 => ?_⟩
  · obtain ⟨h1, h2⟩ := tk hx
    have := h.inn _ _ h2
    have := (ha.2 _ _ h2).1 h1
    omega
  · obtain ⟨j, x, hx, e⟩ := h.first (by omega)
    refine ⟨j, x, kt (Nat.lt_of_not_le fun hc => ?_) hx, e⟩
    have := (ha.2 _ _ hx).2 hc
    omega
  · obtain ⟨h1, h2⟩ := tk hx
    have h3 := (ha.2 _ _ h2).1 h1
    have h4 := h.inn _ _ h2
    rw [h.bef _ _ h2]
    exact run_congr fun i hi => (hg _ (by omega)).symm
  · obtain ⟨k1, k2⟩ := tk hx
    rw [hg t (by omega)]
    refine h.exc _ _ k2 t h1 (by omega) (fun i y hy hxy => ?_)
    by_cases hin : i < n
    · exact h3 i y (kt hin hy) hxy
    · have := (ha.2 _ _ hy).2 (by omega)
      omega
theorem snoc_at {α : Type} {l : List α} {a x : α} {j : Nat} (h : (l ++ [a])[j]? = some x) : l[j]? = some x ∨ (j = l.length ∧ x = a) := by
  by_cases hj : j < l.length
  · rw [List.getElem?_append_left hj] at h
    exact .inl h
  · rw [List.getElem?_append_right (by omega)] at h
    rcases Nat.lt_or_ge 0 (j - l.length) with h1 | h1
    · rw [List.getElem?_eq_none (by simp; omega)] at h
      cases h
    · have e : j - l.length = 0 := by omega
      rw [e] at h
      exact .inr ⟨by omega, by simpa using h.symm⟩
theorem rec_snoc {f : Int → Int} {P : List Pt} {kn e c s : Int} (h : Rec f P kn) (h1 : kn < e) (h2 : e ≤ 1048576) (hc : ∀ m, kn ≤ m → m < e → f m = c) (hs : s = run f 0 kn.toNat) : Rec f (P ++ [⟨kn, s, c⟩]) e := by
  have lo := h.lo
  have old : ∀ {j : Nat} {x : Pt}, P[j]? = some x → (P ++ [⟨kn, s, c⟩])[j]? = some x := fun {j x} hj => by
    rw [List.getElem?_append_left (List.getElem?_eq_some_iff.1 hj).1]
    exact hj
  have new : (P ++ [(⟨kn, s, c⟩ : Pt)])[P.length]? = some ⟨kn, s, c⟩ := by simp
  refine ⟨by omega, h2, fun i j x y hx hy hij => ?_, fun j x hx => ?_, fun _ => ?_, fun j x hx => ?_, fun j x hx m m1 m2 m3 => ?_⟩
  · rcases snoc_at hx with hx | ⟨ex, rfl⟩
    · rcases snoc_at hy with hy | ⟨_, rfl⟩
      · exact h.rise i j x y hx hy hij
      · exact (h.inn _ _ hx).2
    · rcases snoc_at hy with hy | ⟨ey, _⟩
      · have := (List.getElem?_eq_some_iff.1 hy).1
        omega
      · omega
  · rcases snoc_at hx with hx | ⟨_, rfl⟩
    · have := h.inn _ _ hx
      omega
    · exact ⟨lo, h1⟩
  · by_cases hp : 0 < kn
    · obtain ⟨j, x, hx, e⟩ := h.first hp
      exact ⟨j, x, old hx, e⟩
    · exact ⟨_, _, new, (by omega : kn = 0)⟩
  · rcases snoc_at hx with hx | ⟨_, rfl⟩
    · exact h.bef _ _ hx
    · exact hs
  · rcases snoc_at hx with hx | ⟨_, rfl⟩
    · refine h.exc _ _ hx m m1 ?_ (fun i y hy hxy => m3 i y (old hy) hxy)
      exact m3 _ _ new (h.inn _ _ hx).2
    · exact hc m m1 m2
/-- A run of minutes: from one up to another one. -/
abbrev Rn := { p : Int × Int // 0 ≤ p.1 ∧ p.1 < p.2 ∧ p.2 ≤ 1048576 }
/-- Runs, one behind the other, of one value each. -/
def Chn (f : Int → Int) : Int → List Rn → Int → Prop
  | a, [], c => a = c
  | a, x :: xs, c => x.1.1 = a ∧ (∀ m, x.1.1 ≤ m → m < x.1.2 → f m = f x.1.1) ∧ Chn f x.1.2 xs c
theorem chn_snoc {f : Int → Int} : ∀ {pre : List Rn} {a b : Int} {x : Rn}, Chn f a pre b → x.1.1 = b → (∀ m, x.1.1 ≤ m → m < x.1.2 → f m = f x.1.1) → Chn f a (pre ++ [x]) x.1.2
  | [], _, _, _, h, h1, h2 => ⟨h1.trans (Eq.symm h), h2, rfl⟩
  | _ :: _, _, _, _, h, h1, h2 => ⟨h.1, h.2.1, chn_snoc h.2.2 h1 h2⟩
theorem chn_le {f : Int → Int} : ∀ {pre : List Rn} {a b : Int}, Chn f a pre b → a ≤ b
  | [], _, _, h => Int.le_of_eq h
  | y :: _, _, _, h => by
    have h1 := chn_le h.2.2
    have h2 := y.2.2.1
    have h3 := h.1
    omega
theorem chn_len {f : Int → Int} : ∀ {pre : List Rn} {a b : Int}, Chn f a pre b → a + pre.length ≤ b
  | [], a, b, h => by
    have h : a = b := h
    simp
    omega
  | y :: _, _, _, h => by
    have h1 := chn_len h.2.2
    have h2 := y.2.2.1
    have h3 := h.1
    simp only [List.length_cons]
    omega
/-- What is added up, run by run. -/
def fold (f : Int → Int) (s0 : Int) (pre : List Rn) : Int := pre.foldl (fun s x => St.St.cap (s + f x.1.1 * (x.1.2 - x.1.1))) s0
theorem fold_snoc (f : Int → Int) (s0 : Int) (pre : List Rn) (x : Rn) : fold f s0 (pre ++ [x]) = St.St.cap (fold f s0 pre + f x.1.1 * (x.1.2 - x.1.1)) := by simp [fold]
/-- Values of one minute, as they are. -/
def Mild (f : Int → Int) : Prop := ∀ m, 0 ≤ f m ∧ f m ≤ 2199023255552
theorem mild_mul {f : Int → Int} (hf : Mild f) (x : Rn) : 0 ≤ f x.1.1 * (x.1.2 - x.1.1) ∧ f x.1.1 * (x.1.2 - x.1.1) ≤ 2305843009213693952 := by
  obtain ⟨⟨a, b⟩, h1, h2, h3⟩ := x
  simp only at *
  have ha := hf a
  have h4 : 0 ≤ f a * (b - a) := Int.mul_nonneg ha.1 (by omega)
  have h5 : f a * (b - a) ≤ 2199023255552 * (b - a) := Int.mul_le_mul_of_nonneg_right ha.2 (by omega)
  omega
theorem fold_bd {f : Int → Int} (hf : Mild f) {s0 : Int} (h0 : 0 ≤ s0) (h1 : s0 ≤ 4611686018427387904) (pre : List Rn) : 0 ≤ fold f s0 pre ∧ fold f s0 pre ≤ 4611686018427387904 := by
  have key : ∀ (pre : List Rn) (s0 : Int), 0 ≤ s0 → s0 ≤ 4611686018427387904 → 0 ≤ fold f s0 pre ∧ fold f s0 pre ≤ 4611686018427387904 := by
    intro pre
    induction pre with
    | nil => exact fun s0 h0 h1 => ⟨h0, h1⟩
    | cons x xs ih =>
      intro s0 h0 h1
      have := mild_mul hf x
      have hb := St.St.cap_bd (n := s0 + f x.1.1 * (x.1.2 - x.1.1)) (by omega)
      exact ih _ hb.1 hb.2
  exact key pre s0 h0 h1
theorem fold_chn {f : Int → Int} (hf : Mild f) : ∀ {pre : List Rn} {s0 a c : Int}, Chn f a pre c → 0 ≤ s0 → s0 + run f a (c - a).toNat ≤ 4611686018427387904 → fold f s0 pre = s0 + run f a (c - a).toNat
  | [], s0, a, c, h, _, _ => by
    have h : a = c := h
    subst h
    simp [fold, run]
  | x :: xs, s0, a, c, h, h0, h1 => by
    obtain ⟨rfl, h2, h3⟩ := h
    have hle := chn_le h3
    have hx := x.2.2.1
    have e : (c - x.1.1).toNat = (x.1.2 - x.1.1).toNat + (c - x.1.2).toNat := by omega
    have e2 : run f x.1.1 (c - x.1.1).toNat = f x.1.1 * (x.1.2 - x.1.1) + run f x.1.2 (c - x.1.2).toNat := by
      rw [e, run_add, run_same_from (c := f x.1.1) (fun m m1 m2 => h2 m m1 (by omega))]
      congr 2 <;> omega
    have hm := mild_mul hf x
    have hr := run_nn (fun m => (hf m).1) x.1.2 (c - x.1.2).toNat
    have ec : St.St.cap (s0 + f x.1.1 * (x.1.2 - x.1.1)) = s0 + f x.1.1 * (x.1.2 - x.1.1) := St.St.cap_mid (by omega)
    show fold f (St.St.cap (s0 + f x.1.1 * (x.1.2 - x.1.1))) xs = _
    rw [ec, fold_chn hf h3 (by omega) (by omega), e2, Int.add_assoc]
/-- The parts that runs make. -/
def mkP (f : Int → Int) (s0 : Int) (pre : List Rn) : List Pt := (pre.foldl (fun (p : Int × List Pt) x => (St.St.cap (p.1 + f x.1.1 * (x.1.2 - x.1.1)), p.2 ++ [⟨x.1.1, p.1, f x.1.1⟩])) (s0, [])).2
theorem mkP_fst (f : Int → Int) : ∀ (pre : List Rn) (s0 : Int) (L : List Pt), pre.foldl (fun (p : Int × List Pt) x => (St.St.cap (p.1 + f x.1.1 * (x.1.2 - x.1.1)), p.2 ++ [⟨x.1.1, p.1, f x.1.1⟩])) (s0, L) = (fold f s0 pre, L ++ mkP f s0 pre)
  | [], s0, L => by simp [fold, mkP]
  | x :: xs, s0, L => by
    show xs.foldl _ (St.St.cap (s0 + f x.1.1 * (x.1.2 - x.1.1)), L ++ [(⟨x.1.1, s0, f x.1.1⟩ : Pt)]) = _
    rw [mkP_fst f xs]
    have e : mkP f s0 (x :: xs) = [⟨x.1.1, s0, f x.1.1⟩] ++ mkP f (St.St.cap (s0 + f x.1.1 * (x.1.2 - x.1.1))) xs := by
      show (xs.foldl _ (St.St.cap (s0 + f x.1.1 * (x.1.2 - x.1.1)), [] ++ [(⟨x.1.1, s0, f x.1.1⟩ : Pt)])).2 = _
      rw [mkP_fst f xs]
      simp
    rw [e, List.append_assoc]
    rfl
theorem mkP_nil (f : Int → Int) (s0 : Int) : mkP f s0 [] = [] := rfl
theorem mkP_cons (f : Int → Int) (s0 : Int) (x : Rn) (xs : List Rn) : mkP f s0 (x :: xs) = ⟨x.1.1, s0, f x.1.1⟩ :: mkP f (St.St.cap (s0 + f x.1.1 * (x.1.2 - x.1.1))) xs := by
  show (xs.foldl _ (St.St.cap (s0 + f x.1.1 * (x.1.2 - x.1.1)), [] ++ [(⟨x.1.1, s0, f x.1.1⟩ : Pt)])).2 = _
  rw [mkP_fst f xs]
  simp
theorem mkP_snoc (f : Int → Int) (s0 : Int) (pre : List Rn) (x : Rn) : mkP f s0 (pre ++ [x]) = mkP f s0 pre ++ [⟨x.1.1, fold f s0 pre, f x.1.1⟩] := by
  unfold mkP
  rw [List.foldl_append, mkP_fst f pre]
  simp [mkP]
theorem mkP_len (f : Int → Int) : ∀ (pre : List Rn) (s0 : Int), (mkP f s0 pre).length = pre.length
  | [], _ => rfl
  | x :: xs, s0 => by rw [mkP_cons, List.length_cons, List.length_cons, mkP_len f xs]
/-- Where runs end. -/
def endOf (a : Int) (pre : List Rn) : Int := pre.foldl (fun _ x => x.1.2) a
theorem endOf_snoc (a : Int) (pre : List Rn) (x : Rn) : endOf a (pre ++ [x]) = x.1.2 := by simp [endOf]
theorem endOf_chn {f : Int → Int} : ∀ {pre : List Rn} {a c : Int}, Chn f a pre c → endOf a pre = c
  | [], _, _, h => h
  | x :: xs, _, c, h => show endOf x.1.2 xs = c from endOf_chn h.2.2
theorem endOf_bd {a : Int} (h0 : 0 ≤ a) (h1 : a ≤ 1048576) : ∀ (pre : List Rn), 0 ≤ endOf a pre ∧ endOf a pre ≤ 1048576
  | [] => ⟨h0, h1⟩
  | x :: xs => by
    have hx := x.2
    exact endOf_bd (by omega) hx.2.2 xs
theorem run_more {f : Int → Int} {a b : Int} (h0 : 0 ≤ a) (h : a ≤ b) : run f 0 b.toNat = run f 0 a.toNat + run f a (b - a).toNat := by
  rw [show b.toNat = a.toNat + (b - a).toNat by omega, run_add]
  congr 2
  omega
theorem run_top {f : Int → Int} (hf : Mild f) (a : Int) (k : Nat) (hk : k ≤ 1048576) : 0 ≤ run f a k ∧ run f a k ≤ 2305843009213693952 := by
  refine ⟨run_nn (fun m => (hf m).1) _ _, ?_⟩
  have h1 := run_le (fun m => (hf m).2) a k
  have h2 : (2199023255552 : Int) * (k : Int) ≤ 2199023255552 * 1048576 := Int.mul_le_mul_of_nonneg_left (by omega) (by decide)
  omega
theorem rec_chn {f : Int → Int} (hf : Mild f) : ∀ {pre : List Rn} {P : List Pt} {s0 a c : Int}, Rec f P a → Chn f a pre c → c ≤ 1048576 → s0 = run f 0 a.toNat → Rec f (P ++ mkP f s0 pre) c
  | [], P, s0, a, c, h, hc, _, _ => by
    have hc : a = c := hc
    subst hc
    rw [mkP_nil, List.append_nil]
    exact h
  | x :: xs, P, s0, a, c, h, hc, h1, hs => by
    obtain ⟨rfl, h2, h3⟩ := hc
    have hle := chn_le h3
    have hx := x.2
    have hr := rec_snoc (c := f x.1.1) (s := s0) h hx.2.1 (by omega) h2 hs
    have hb := run_top hf 0 x.1.1.toNat (by omega)
    have hm := mild_mul hf x
    have e : St.St.cap (s0 + f x.1.1 * (x.1.2 - x.1.1)) = run f 0 x.1.2.toNat := by
      rw [St.St.cap_mid (by omega), run_more hx.1 (Int.le_of_lt hx.2.1), ← hs, run_same_from (c := f x.1.1) (fun m m1 m2 => h2 m m1 (by omega))]
      congr 2
      omega
    have := rec_chn hf hr h3 h1 e
    rw [mkP_cons, ← List.append_cons] at *
    exact this
end Go.Proofs.Ytfmnbmjfkplieaa.Ex
