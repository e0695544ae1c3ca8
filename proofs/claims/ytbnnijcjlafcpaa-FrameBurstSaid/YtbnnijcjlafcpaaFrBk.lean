/- Frames in plain words: what is read of bytes, there and back. No condition but those written. -/
import Derived.Test.YtbnnijcjlafcpaaFrNum
namespace Go.Proofs.Ytbnnijcjlafcpaa.Fr
open Oc

/-- What is read of bytes, and the error. -/
def rd (l : List Nat) : Frm × Nat :=
  if (rbool (0, l)).1 then
    (⟨((rnum (rbool (0, l)).2 1).1 : Nat), ((rnum (rnum (rbool (0, l)).2 1).2 2).1 : Nat), ((rnum (rnum (rnum (rbool (0, l)).2 1).2 2).2 3).1 : Nat), true, (rbool (rnum (rnum (rnum (rbool (0, l)).2 1).2 2).2 3).2).1, 0⟩,
      rdone (rbool (rnum (rnum (rnum (rbool (0, l)).2 1).2 2).2 3).2).2)
  else
    (⟨((rnum (rbool (0, l)).2 1).1 : Nat), ((rnum (rnum (rbool (0, l)).2 1).2 2).1 : Nat), ((rnum (rnum (rnum (rbool (0, l)).2 1).2 2).2 3).1 : Nat), false, false, (rnum (rnum (rnum (rnum (rbool (0, l)).2 1).2 2).2 3).2 8).1⟩,
      rdone (rnum (rnum (rnum (rnum (rbool (0, l)).2 1).2 2).2 3).2 8).2)
theorem rnum_go {l : List Nat} {k : Nat} {m : Int} (hm : m = (k : Int)) (h1 : 1 ≤ k) (h8 : k ≤ 8) (hk : k ≤ l.length) : rnum (0, l) m = (Oc.val (l.take k), (0, l.drop k)) := by
  subst hm
  unfold rnum
  rw [if_neg (by simp), if_neg (by omega), if_neg (by simp; omega)]
  simp
theorem rnum_stop {l : List Nat} {k : Nat} {m : Int} (hm : m = (k : Int)) (h1 : 1 ≤ k) (h8 : k ≤ 8) (hk : l.length < k) : rnum (0, l) m = (0, (2, [])) := by
  subst hm
  unfold rnum
  rw [if_neg (by simp), if_neg (by omega), if_pos (by simp; omega)]
theorem rnum_err2 (m : Int) : rnum (2, []) m = (0, (2, [])) := by
  unfold rnum
  rw [if_pos (by simp)]
theorem val_one (x : Nat) : Oc.val [x] = x := by simp [Oc.val, Oc.valo]
theorem rbool_go {x : Nat} {l : List Nat} : rbool (0, x :: l) = (decide (x = 1), if x ≤ 1 then (0, l) else (2, [])) := by
  unfold rbool
  rw [rnum_go (m := 1) (k := 1) rfl (by decide) (by decide) (by simp)]
  simp [val_one]
theorem rbool_err2 : rbool (2, []) = (false, (2, [])) := by
  unfold rbool
  rw [rnum_err2]
  simp
theorem rd_two {x : Nat} {l : List Nat} (hx : ¬ x ≤ 1) : (rd (x :: l)).2 = 2 := by
  unfold rd
  rw [rbool_go, if_neg hx, if_neg (by simp; omega)]
  simp only [rnum_err2]
  simp [rdone]
theorem rd_air {a z s1 s2 m1 m2 m3 : Nat} {l : List Nat} (ha : a = 0) :
    rd (a :: z :: s1 :: s2 :: m1 :: m2 :: m3 :: l) = (⟨(z : Nat), (Oc.val [s1, s2] : Nat), (Oc.val [m1, m2, m3] : Nat), false, false, (rnum (0, l) 8).1⟩, rdone (rnum (0, l) 8).2) := by
  subst ha
  unfold rd
  rw [rbool_go, if_neg (by simp)]
  simp only [if_pos (show 0 ≤ 1 by decide)]
  rw [rnum_go (m := 1) (k := 1) rfl (by decide) (by decide) (by simp), rnum_go (m := 2) (k := 2) rfl (by decide) (by decide) (by simp), rnum_go (m := 3) (k := 3) rfl (by decide) (by decide) (by simp)]
  simp [val_one]
theorem rd_door {a z s1 s2 m1 m2 m3 o : Nat} {l : List Nat} (ha : a = 1) :
    rd (a :: z :: s1 :: s2 :: m1 :: m2 :: m3 :: o :: l) = (⟨(z : Nat), (Oc.val [s1, s2] : Nat), (Oc.val [m1, m2, m3] : Nat), true, decide (o = 1), 0⟩, if o ≤ 1 then rdone (0, l) else 2) := by
  subst ha
  unfold rd
  rw [rbool_go, if_pos (by simp)]
  simp only [if_pos (show 1 ≤ 1 by decide)]
  rw [rnum_go (m := 1) (k := 1) rfl (by decide) (by decide) (by simp), rnum_go (m := 2) (k := 2) rfl (by decide) (by decide) (by simp), rnum_go (m := 3) (k := 3) rfl (by decide) (by decide) (by simp)]
  simp only [val_one, List.take_succ_cons, List.take_zero, List.drop_succ_cons, List.drop_zero]
  rw [rbool_go]
  by_cases ho : o ≤ 1
  · simp [ho]
  · simp [ho, rdone]
theorem ten_of {b : List Nat} (h : b.length = 10) : ∃ a z s1 s2 m1 m2 m3 o x y, b = [a, z, s1, s2, m1, m2, m3, o, x, y] := by
  match b, h with
  | [a, z, s1, s2, m1, m2, m3, o, x, y], _ => exact ⟨a, z, s1, s2, m1, m2, m3, o, x, y, rfl⟩
theorem air_of {b : List Nat} (h : b.length = 17) : ∃ a z s1 s2 m1 m2 m3 q x y, b = a :: z :: s1 :: s2 :: m1 :: m2 :: m3 :: (q ++ [x, y]) ∧ q.length = 8 := by
  match b, h with
  | [a, z, s1, s2, m1, m2, m3, b1, b2, b3, b4, b5, b6, b7, b8, x, y], _ => exact ⟨a, z, s1, s2, m1, m2, m3, [b1, b2, b3, b4, b5, b6, b7, b8], x, y, rfl, rfl⟩
/-- What becomes of what was read. -/
def fin (r : Frm × Nat) : Frm × Nat := if r.2 = 0 ∧ okB r.1 = true then (r.1, 0) else (zero, 2)
theorem fin_no {r : Frm × Nat} (h : ¬ r.2 = 0) : fin r = (zero, 2) := by unfold fin; rw [if_neg (fun x => h x.1)]
/-- What the program makes of good bytes is what the document says. -/
theorem dec_rd {b : List Nat} {n : Nat} (hn : b.length = n + 2) (h : b.length = 10 ∨ b.length = 17) (hg : Ck.goodB b = true) :
    dec b = fin (rd (b.take n)) := by
  unfold dec
  rw [if_neg (by simp [h]), if_neg (by simp [hg])]
  rcases h with h | h
  · obtain rfl : n = 8 := by omega
    obtain ⟨a, z, s1, s2, m1, m2, m3, o, x, y, rfl⟩ := ten_of h
    simp only [List.take_succ_cons, List.take_zero]
    by_cases ha : a ≤ 1
    · by_cases ha1 : a = 1
      · rw [rd_door ha1]
        by_cases ho : o ≤ 1
        · simp [fin, bytesB, said, ha1, ho, rdone]
        · simp [fin, bytesB, said, ha1, ho]
      · obtain rfl : a = 0 := by omega
        rw [rd_air rfl, rnum_stop (m := 8) (k := 8) rfl (by decide) (by decide) (by simp)]
        simp [fin, bytesB, said, rdone]
    · rw [fin_no (by rw [rd_two ha]; simp)]
      simp [bytesB, said, show ¬ a = 1 by omega]
  · obtain rfl : n = 15 := by omega
    obtain ⟨a, z, s1, s2, m1, m2, m3, q, x, y, rfl, hq⟩ := air_of h
    have ht : (q ++ [x, y]).take 8 = q := by rw [List.take_append_of_le_length (by omega), List.take_of_length_le (by omega)]
    have hl : (a :: z :: s1 :: s2 :: m1 :: m2 :: m3 :: (q ++ [x, y])).length = 17 := h
    simp only [List.take_succ_cons, ht]
    by_cases ha : a ≤ 1
    · by_cases ha1 : a = 1
      · have hq' := hq
        match q, hq' with
        | o :: q', hq' =>
          rw [rd_door ha1]
          have hne : q' ≠ [] := by
            rintro rfl
            simp at hq'
          have hlen : 0 < q'.length := List.length_pos_iff.2 hne
          by_cases ho : o ≤ 1
          · rw [fin_no (by
              rw [if_pos ho]
              unfold rdone
              rw [if_pos hlen]
              simp)]
            simp [bytesB, hne, ha1]
          · rw [fin_no (by rw [if_neg ho]; simp)]
            simp [bytesB, hne, ha1]
      · obtain rfl : a = 0 := by omega
        rw [rd_air rfl, rnum_go (m := 8) (k := 8) rfl (by decide) (by decide) (by omega)]
        rw [List.take_of_length_le (show q.length ≤ 8 by omega), List.drop_of_length_le (show q.length ≤ 8 by omega)]
        have hs : said (0 :: z :: s1 :: s2 :: m1 :: m2 :: m3 :: (q ++ [x, y])) = ⟨(z : Nat), (Oc.val [s1, s2] : Nat), (Oc.val [m1, m2, m3] : Nat), false, false, Oc.val q⟩ := by
          simp [said, hq, ht]
        simp [fin, bytesB, hl, hs, rdone]
    · rw [fin_no (by rw [rd_two ha]; simp)]
      simp [bytesB, hl, show ¬ a = 0 by omega]
theorem be1 {n : Nat} (h : n < 256) : be 1 n = [n] := by
  simp [be]
  omega
/-- There: the frame of a frame's bytes. -/
theorem dec_tight {f : Frm} (hb : f.bits < 18446744073709551616) (hok : okB f = true) : dec (Ck.tight (raw f)) = (f, 0) := by
  have hnum : numB f = true := by
    simp only [okB, Bool.and_eq_true] at hok
    exact hok.1
  obtain ⟨h1, h2, h3, h4, h5, h6⟩ := num_of hnum
  have hx := raw_lt f
  have hg := Ck.good_tight hx
  have hl := Ck.tight_length (raw f)
  have hr := raw_length f
  have ht : (Ck.tight (raw f)).take (raw f).length = raw f := by rw [Ck.tight_eq, List.take_append_of_le_length (Nat.le_refl _), List.take_of_length_le (Nat.le_refl _)]
  rw [dec_rd (n := (raw f).length) hl (by rw [hl, hr]; split <;> simp) hg, ht]
  have e : rd (raw f) = (f, 0) := by
    obtain ⟨z, s, m, d, o, b⟩ := f
    simp only at h1 h2 h3 h4 h5 h6 hb
    obtain ⟨zn, rfl⟩ : ∃ zn : Nat, z = zn := ⟨z.toNat, by omega⟩
    obtain ⟨sn, rfl⟩ : ∃ sn : Nat, s = sn := ⟨s.toNat, by omega⟩
    obtain ⟨mn, rfl⟩ : ∃ mn : Nat, m = mn := ⟨m.toNat, by omega⟩
    have b1 : ∀ R, rnum (0, be 1 zn ++ R) 1 = (zn, (0, R)) := fun R => rnum_back (k := 1) (by decide) (by decide) (by omega) R
    have b2 : ∀ R, rnum (0, be 2 sn ++ R) 2 = (sn, (0, R)) := fun R => rnum_back (k := 2) (by decide) (by decide) (by omega) R
    have b3 : ∀ R, rnum (0, be 3 mn ++ R) 3 = (mn, (0, R)) := fun R => rnum_back (k := 3) (by decide) (by decide) (by omega) R
    have b8 : ∀ R, rnum (0, be 8 b ++ R) 8 = (b, (0, R)) := fun R => rnum_back (k := 8) (by decide) (by decide) (by omega) R
    cases d
    · have ho : o = false := by
        simp [okB, saidB] at hok
        exact hok.2.1
      subst ho
      have e0 : raw ⟨zn, sn, mn, false, false, b⟩ = 0 :: (be 1 zn ++ (be 2 sn ++ (be 3 mn ++ (be 8 b ++ [])))) := by
        simp [raw, bit, be1 (show 0 < 256 by decide)]
      rw [e0]
      unfold rd
      rw [rbool_go, if_neg (by simp)]
      simp only [if_pos (show 0 ≤ 1 by decide), b1, b2, b3, b8]
      simp [rdone]
    · have h0 : b = 0 := by
        simp [okB, saidB] at hok
        exact hok.2
      subst h0
      have e0 : raw ⟨zn, sn, mn, true, o, 0⟩ = 1 :: (be 1 zn ++ (be 2 sn ++ (be 3 mn ++ (bit o :: [])))) := by
        simp [raw, be1 (show bit o < 256 by cases o <;> decide)]
        rfl
      rw [e0]
      unfold rd
      rw [rbool_go, if_pos (by simp)]
      simp only [if_pos (show 1 ≤ 1 by decide), b1, b2, b3]
      rw [rbool_go]
      cases o <;> simp [rdone, bit]
  rw [e]
  unfold fin
  rw [if_pos ⟨rfl, hok⟩]
theorem valo_shift (l : List Nat) : ∀ u, valo u l = 256 ^ l.length * u + Oc.val l := by
  induction l with
  | nil =>
    intro u
    simp [Oc.val, valo_nil]
  | cons x l ih =>
    intro u
    show valo u (x :: l) = 256 ^ (l.length + 1) * u + valo 0 (x :: l)
    rw [valo_cons, valo_cons, ih, ih (256 * 0 + x), Nat.pow_succ, Nat.mul_add, Nat.mul_zero, Nat.zero_add, ← Nat.mul_assoc]
    omega
theorem be_add (k : Nat) : ∀ x n, be k (256 ^ k * x + n) = be k n := by
  induction k with
  | zero =>
    intro x n
    rfl
  | succ k ih =>
    intro x n
    have e : 256 ^ (k + 1) * x + n = 256 ^ k * (256 * x) + n := by rw [Nat.pow_succ, Nat.mul_assoc]
    rw [be_succ, be_succ, e, ih, Nat.mul_add_div (Nat.pow_pos (by decide))]
    congr 1
    omega
theorem be_val {l : List Nat} (hl : ∀ x ∈ l, x < 256) : be l.length (Oc.val l) = l := by
  induction l with
  | nil => rfl
  | cons x l ih =>
    have hx := hl x List.mem_cons_self
    have hl' : ∀ y ∈ l, y < 256 := fun y hy => hl y (List.mem_cons_of_mem _ hy)
    have hv := val_lt hl'
    have e : Oc.val (x :: l) = 256 ^ l.length * x + Oc.val l := by
      show valo 0 (x :: l) = _
      rw [valo_cons, valo_shift]
      simp
    show be (l.length + 1) (Oc.val (x :: l)) = x :: l
    rw [be_succ, e, be_add, ih hl', Nat.mul_add_div (Nat.pow_pos (by decide)), Nat.div_eq_of_lt hv]
    congr 1
    omega
theorem be_list {l : List Nat} {k : Nat} (hk : l.length = k) (hl : ∀ x ∈ l, x < 256) : be k (Oc.val l) = l := by
  subst hk
  exact be_val hl
theorem get_256 {l : List Nat} (h : ∀ x ∈ l, x < 256) (k : Nat) : l.getD k 0 < 256 := by
  by_cases hk : k < l.length
  · rw [List.getD_eq_getElem?_getD, List.getElem?_eq_getElem hk]
    exact h _ (List.getElem_mem hk)
  · rw [List.getD_eq_getElem?_getD, List.getElem?_eq_none (by omega)]
    decide
theorem tight_good {b : List Nat} {n : Nat} (hn : b.length = n + 2) (hx : ∀ x ∈ b, x < 256) (hg : Ck.goodB b = true) : Ck.tight (b.take n) = b := by
  rw [Ck.good_long hn, decide_eq_true_eq] at hg
  have h1 := get_256 hx n
  have h2 := get_256 hx (n + 1)
  rw [Ck.tight_eq, hg]
  conv => rhs; rw [Ck.split_two hn]
  congr 2
  · omega
  · congr 1
    omega
/-- And back: bytes that are a frame's are its. -/
theorem tight_dec {b : List Nat} (hx : ∀ x ∈ b, x < 256) (h : (dec b).2 = 0) : okB (dec b).1 = true ∧ (dec b).1.bits < 18446744073709551616 ∧ Ck.tight (raw (dec b).1) = b := by
  unfold dec at *
  by_cases hl : b.length = 10 ∨ b.length = 17
  · rw [if_neg (by simp [hl])] at h ⊢
    by_cases hg : Ck.goodB b = true
    · rw [if_neg (by simp [hg])] at h ⊢
      by_cases hb : bytesB b = true
      · rw [if_pos hb]
        have hok : okB (said b) = true := by
          simp only [bytesB, Bool.and_eq_true] at hb
          exact hb.1
        refine ⟨hok, ?_, ?_⟩
        · unfold said
          rcases hl with hl | hl
          · simp [hl]
          · have h8 : ((b.drop 7).take 8).length = 8 := by simp [hl]
            have hv := val_lt (mem_take (mem_drop hx 7) 8)
            rw [h8] at hv
            simp only [hl]
            simpa using hv
        · rcases hl with hl | hl
          · have e : raw (said b) = b.take 8 := by
              obtain ⟨a, z, s1, s2, m1, m2, m3, o, x, y, rfl⟩ := ten_of hl
              simp only [List.mem_cons, List.not_mem_nil, or_false, forall_eq_or_imp, forall_eq] at hx
              obtain ⟨ha, hz, hs1, hs2, hm1, hm2, hm3, ho, _, _⟩ := hx
              have hq : a = 1 ∧ o ≤ 1 := by
                simp [bytesB] at hb
                exact hb.2
              have e0 : said [a, z, s1, s2, m1, m2, m3, o, x, y] = ⟨(z : Nat), (Oc.val [s1, s2] : Nat), (Oc.val [m1, m2, m3] : Nat), true, decide (o = 1), 0⟩ := by simp [said]
              rw [e0]
              have e1 : bit (decide (o = 1)) = o := by
                unfold bit
                by_cases h1 : o = 1
                · simp [h1]
                · have : o = 0 := by omega
                  simp [this]
              simp only [raw, if_true, Int.toNat_natCast, e1]
              rw [be_list (l := [s1, s2]) (k := 2) rfl (by simp [hs1, hs2]), be_list (l := [m1, m2, m3]) (k := 3) rfl (by simp [hm1, hm2, hm3]), be1 hz, be1 ho, be1 (show bit true < 256 by decide)]
              simp [hq.1, bit]
            rw [e]
            exact tight_good (n := 8) hl hx hg
          · have e : raw (said b) = b.take 15 := by
              obtain ⟨a, z, s1, s2, m1, m2, m3, q, x, y, rfl, hq⟩ := air_of hl
              have hxq : ∀ u ∈ q, u < 256 := fun u hu => hx u (by simp [hu])
              simp only [List.mem_cons, List.mem_append, List.not_mem_nil, or_false, forall_eq_or_imp] at hx
              obtain ⟨ha, hz, hs1, hs2, hm1, hm2, hm3, _⟩ := hx
              have h0 : a = 0 := by
                simp [bytesB, hq] at hb
                exact hb.2
              have ht : (q ++ [x, y]).take 8 = q := by rw [List.take_append_of_le_length (by omega), List.take_of_length_le (by omega)]
              have e0 : said (a :: z :: s1 :: s2 :: m1 :: m2 :: m3 :: (q ++ [x, y])) = ⟨(z : Nat), (Oc.val [s1, s2] : Nat), (Oc.val [m1, m2, m3] : Nat), false, false, Oc.val q⟩ := by
                simp [said, hq, ht]
              rw [e0]
              simp only [raw, Bool.false_eq_true, if_false, Int.toNat_natCast]
              rw [be_list (l := [s1, s2]) (k := 2) rfl (by simp [hs1, hs2]), be_list (l := [m1, m2, m3]) (k := 3) rfl (by simp [hm1, hm2, hm3]), be1 hz, be_list (l := q) hq hxq, be1 (show bit false < 256 by decide)]
              simp only [List.take_succ_cons, ht]
              simp [h0, bit]
            rw [e]
            exact tight_good (n := 15) hl hx hg
      · rw [if_neg hb] at h
        exact absurd h (by simp)
    · rw [if_pos (by simpa using hg)] at h
      exact absurd h (by simp)
  · rw [if_pos hl] at h
    exact absurd h (by simp)
end Go.Proofs.Ytbnnijcjlafcpaa.Fr
