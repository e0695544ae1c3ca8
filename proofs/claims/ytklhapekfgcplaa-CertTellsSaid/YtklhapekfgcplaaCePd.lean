/- Walks over package cert: a book in memory, a new one, a copy of all, the one with an ID, which are flagged. No condition but those written. -/
import Derived.Test.YtklhapekfgcplaaCePa
import Derived.Test.YtklhapekfgcplaaRwApp
import Derived.Test.YtklhapekfgcplaaCeTwo
import Derived.Test.YtklhapekfgcplaaSl
namespace Go.Proofs.Ytklhapekfgcplaa
open Go.RowKit

namespace Ce
/-- A book in memory: its block, and the row of its certificates. -/
def PBo (w : World) (B h : Nat) (v : Value) (l : List Ct) : Prop := B ≤ h ∧ Lies w h 68 #[v] ∧ w.ownsRow B 23 8 v l.length (l.flatMap ccells) ∧ B ≤ w.heap.size
def DBo (w : World) (B h : Nat) (F : Nat → Prop) (l : List Ct) : Prop := ∃ v, PBo w B h v l ∧ ∀ k, F k ↔ Feet h v k
theorem dbo_foot {w : World} {B h : Nat} {F : Nat → Prop} {l : List Ct} {k : Nat} (hd : DBo w B h F l) (hk : F k) : B ≤ k ∧ k < w.heap.size := by
  obtain ⟨v, hp, hF⟩ := hd
  rcases (hF k).1 hk with rfl | h1
  · exact ⟨hp.1, hp.2.1.lt⟩
  · exact own_lt hp.2.2.1 h1
theorem dbo_turn {w w' : World} {B h : Nat} {F T : Nat → Prop} {l : List Ct} (hd : DBo w B h F l) (ht : Turn T w w') (hT : ∀ k, F k → ¬ T k) : DBo w' B h F l := by
  obtain ⟨v, ⟨h1, h2, h3, h4⟩, hF⟩ := hd
  exact ⟨v, ⟨h1, h2.turn ht (hT h ((hF h).2 (.inl rfl))), own_turn h3 ht (fun k hk => hT k ((hF k).2 (.inr hk))), Nat.le_trans h4 ht.size⟩, hF⟩
theorem dbo_left {w w' : World} {B h : Nat} {F : Nat → Prop} {v v' : Value} {l' : List Ct} (hF : ∀ k, F k ↔ Feet h v k) (hp : PBo w' B h v' l') (ht : Turn (Feet h v) w w') (hv : ∀ k, v'.ownBlock = some k → v.ownBlock = some k ∨ w.heap.size ≤ k) : Left DBo w B h F l' w' :=
  ⟨Feet h v', ⟨v', hp, fun _ => Iff.rfl⟩, ht.mono (fun i _ hi => (hF i).2 hi), fun k hk => by
    rcases hk with rfl | hk
    · exact .inl ((hF k).2 (.inl rfl))
    · exact (hv k hk).imp (fun h => (hF k).2 (.inr h)) id⟩
theorem PBo.read {w : World} {B h : Nat} {v : Value} {l : List Ct} (hp : PBo w B h v l) : ∃ p c, v = .slice p l.length c ∧ l.length ≤ c ∧ Rw 8 ccells w p l.length l := rw_own ccells_len hp.2.2.1
theorem same_left {w w' : World} {B h : Nat} {F : Nat → Prop} {l : List Ct} (hd : DBo w B h F l) (hb : Below w.heap.size w w') : Left DBo w B h F l w' :=
  ⟨F, dbo_turn hd (T := fun _ => False) (Turn.of_below hb) (fun _ _ hf => hf), (Turn.of_below hb).mono (fun _ _ hf => False.elim hf), fun _ hk => .inl hk⟩
/-- Behind an append onto a book's row. -/
theorem more_after {w w3 : World} {B h : Nat} {F : Nat → Prop} {p : Option Addr} {c : Nat} {l l2 : List Ct} {o : Obj} {q : Option Addr} {d : Nat} (h1 : B ≤ h) (h2 : Lies w h 68 #[.slice p l.length c]) (h3 : w.ownsRow B 23 8 (.slice p l.length c) l.length (l.flatMap ccells)) (h4 : B ≤ w.heap.size) (hF : ∀ k, F k ↔ Feet h (.slice p l.length c) k)
    (ho : w3.ownsRow B 23 8 (.slice q (l.length + 1) d) (l.length + 1) ((l ++ l2).flatMap ccells)) (hg : (w.alloc o).grownBy w3 (Value.slice p l.length c).ownBlock) (hb : (Value.slice q (l.length + 1) d).ownBlock = (Value.slice p l.length c).ownBlock ∨ (Value.slice q (l.length + 1) d).ownBlock = some (w.alloc o).heap.size) (hl2 : l2.length = 1 := by rfl) :
    Lies w3 h 68 #[.slice p l.length c] ∧ Left DBo w B h F (l ++ l2) (w3.setCell ⟨h, 0, none⟩ (.slice q (l.length + 1) d)) := by
  have hne := own_blk_ne h3 h2 (by decide)
  have hX : Lies w3 h 68 #[.slice p l.length c] := (h2.alloc o).grown hg (fun e => hne e.symm)
  have hT : Turn (Feet h (.slice p l.length c)) w w3 := ((Turn.refl _ w).alloc o).grown hg (fun k hk => .inl (.inr hk))
  have hne2 := own_blk_ne ho hX (by decide)
  have hlen : (l ++ l2).length = l.length + 1 := by rw [List.length_append, hl2]
  refine ⟨hX, dbo_left (v' := .slice q (l.length + 1) d) hF ⟨h1, ?_, ?_, ?_⟩ (hT.setCell (.inl (.inl rfl)) _) (fun k hk => ?_)⟩
  · simpa using hX.set_ 0 (.slice q (l.length + 1) d)
  · rw [hlen]
    exact own_turn ho ((Turn.refl (fun k => k = h) w3).setCell (.inl rfl) _) (fun k hk e => hne2 (by rw [hk, e]))
  · simp only [World.setCell]
    have := hT.size
    simp
    omega
  · rcases hb with hb | hb
    · exact .inl (hb ▸ hk)
    · rw [hb] at hk
      injection hk with hk
      have : w.heap.size ≤ (w.alloc o).heap.size := by simp
      exact .inr (by omega)
theorem left_of {w W W' : World} {B h : Nat} {F : Nat → Prop} {l : List Ct} (hb : Below w.heap.size w W) (hl : Left DBo W B h F l W') : Left DBo w B h F l W' := by
  obtain ⟨F', h1, h2, h3⟩ := hl
  exact ⟨F', h1, ((Turn.of_below hb).mono (fun _ _ hf => False.elim hf)).trans h2 (fun _ hk => .inl hk), fun k hk => (h3 k hk).imp id (fun h => Nat.le_trans hb.size h)⟩
theorem pnewB_any (w : World) : Calls Try.prog 14 #[] w fun e w' => ∃ h F, e = .returned (.pointer (some ⟨h, 0, none⟩)) ∧ DBo w' w.heap.size h F [] ∧ Below w.heap.size w w' := by
  have X := Lib.hid (Lies.new w 68 #[.slice none 0 0])
  have R := Lib.hid (alloc_below w (.cells #[.slice none 0 0] 68))
  go_enter Try.func14, Try.ntmps14
  go_wp2
  go_ret
  exact ⟨w.heap.size, Feet w.heap.size (.slice none 0 0), rfl, ⟨.slice none 0 0, ⟨Nat.le_refl _, X.out, World.ownsRow_nil _ _ _ _, R.out.size⟩, fun _ => Iff.rfl⟩, R.out⟩
set_option maxRecDepth 100000 in
set_option maxHeartbeats 4000000 in
theorem cclone_any (q : Option Addr) (n c : Nat) (S : List Ct) (w : World) (h : Rw 8 ccells w q n S) (hL : S.length ≤ 1000000) :
    Calls Try.prog 33 #[.slice q n c] w fun e w' => ∃ v, e = .returned v ∧ w'.ownsRow w.heap.size 23 8 v S.length (S.flatMap ccells) ∧ Below w.heap.size w w' := by
  have qe : ∀ (w : World) (a : Option Addr) (n c n' c' : Nat), (binOp .eql 34 (.slice a n c) (.slice none n' c')).run Try.prog w = .ok (.bool a.isNone) w := fun w a n c n' c' => Lib.run_eql_slice_nil w _ _ a n c n' c' Try.underlying34
  cases q with
  | none =>
    have hS : S = [] := by
      rcases Nat.eq_zero_or_pos n with h0 | h0
      · exact List.eq_nil_of_length_eq_zero (h.1.trans h0)
      · obtain ⟨_, _, e, _⟩ := h.2 h0
        cases e
    subst hS
    go_enter Try.func33, Try.ntmps33
    go_wp2
    go_ret
    exact ⟨_, rfl, World.ownsRow_nil _ _ _ _, Below.refl _ _⟩
  | some a =>
    obtain ⟨i0, hi, hz0, hz1, hz2⟩ := info_ct
    have hn := h.1
    have hl : (S.flatMap ccells).length = n * 8 := by rw [flat_len ccells_len, hn]
    have hc : ∀ j u, (S.flatMap ccells)[j]? = some u → w.cell? (a.add j) = some u := fun j u hj => by
      have hlt := (List.getElem?_eq_some_iff.1 hj).1
      obtain ⟨b, o, e, _⟩ := h.2 (by omega)
      cases e
      rw [add_none]
      exact rw_cells ccells_len h j u hj
    have HC := Lib.hid hc
    have H1 := Lib.hid (show ∀ u ∈ S.flatMap ccells, u.oneCell' = true from fun u hu => by
      obtain ⟨y, _, hu⟩ := List.mem_flatMap.1 hu
      exact ccells_one y u hu)
    subst hn
    clear hc h
    go_enter Try.func33, Try.ntmps33
    go_wp2_with (at_builtin; refine wpList_append_own _ rfl _ _ 34 rfl w.heap.size 23 i0 _ 8 64 Try.underlying34 hi hz0 hz1 hz2 rfl (by decide) _ _ _ rfl (World.ownsRow_made w #[] 0 (Nat.le_refl _) (Nat.zero_le _) (by simp)) a S.length c (S.flatMap ccells) rfl ?qc1 ?qc2 ?qc3 ?qc4 ?qc5 ?qc6 ?_)
    case qc1 => exact hl
    case qc2 =>
      intro j u hj
      exact Lib.cell?_alloc_some _ (HC.out j u hj)
    case qc3 => exact H1.out
    case qc4 => unfold maxLen; omega
    case qc5 => omega
    case qc6 => simp
    intro v' w1 hown hgrow hnil
    go_wp2
    go_ret
    refine ⟨v', rfl, by simpa using hown, ?_⟩
    exact ((Below.refl _ w).alloc (Nat.le_refl _) _).grown hgrow (by simp) (by intro k hk; simp [Value.ownBlock] at hk; omega)
theorem pall_any (B h : Nat) (F : Nat → Prop) (l : List Ct) (w : World) (hd : DBo w B h F l) (hl : l.length ≤ 100000) :
    Calls Try.prog 19 #[.pointer (some ⟨h, 0, none⟩)] w fun e w' => ∃ v, e = .returned v ∧ w'.ownsRow w.heap.size 23 8 v l.length (l.flatMap ccells) ∧ Below w.heap.size w w' := by
  obtain ⟨v, hp, _⟩ := hd
  obtain ⟨p, c, rfl, hc, hr⟩ := hp.read
  have l0 : w.cell? ⟨h, 0, none⟩ = some (.slice p l.length c) := hp.2.1.cell 0
  have C := Lib.hid (cclone_any p l.length c l w hr (by omega))
  clear hp hr hl
  go_enter Try.func19, Try.ntmps19
  go_wp2_with fail
  refine C.out.mono ?_
  rintro e w1 ⟨v, rfl, ho, hb⟩
  have O := Lib.hid ho
  have B1 := Lib.hid hb
  clear ho hb C l0
  go_wp2
  go_ret
  exact ⟨v, rfl, O.out, B1.out⟩
set_option maxRecDepth 100000 in
set_option maxHeartbeats 8000000 in
theorem pcert_none (h : Nat) (v : Value) (l : List Ct) (id : Int) (B : Nat) (w : World) (hp : PBo w B h v l) (hl : l.length ≤ 100000) (hid : ¬ (1 ≤ id ∧ id ≤ l.length)) : Calls Try.prog 17 #[.pointer (some ⟨h, 0, none⟩), .int .i64 id] w fun e w' => e = .returned (.tuple #[cval (certF l id).1, .int .i64 (certF l id).2]) ∧ Below w.heap.size w w' := by
  have HE : Hid (certF l id = (ct0, 5)) := Lib.hid (by unfold certF; rw [if_neg hid])
  rw [HE.out]
  obtain ⟨p, c, rfl, hc, hr⟩ := hp.read
  have B1 := Lib.hid (alloc_below w (.cells #[.int .i64 0, .int .i64 0, .int .i64 0, .int .i64 0, .int .i64 0, .int .i64 0, .int .i64 0, .int .i64 0] 23))
  have X1 := Lib.hid (Lies.new w 23 #[.int .i64 0, .int .i64 0, .int .i64 0, .int .i64 0, .int .i64 0, .int .i64 0, .int .i64 0, .int .i64 0])
  have XH := Lib.hid (hp.2.1.alloc (.cells #[.int .i64 0, .int .i64 0, .int .i64 0, .int .i64 0, .int .i64 0, .int .i64 0, .int .i64 0, .int .i64 0] 23))
  obtain ⟨w1, hw1⟩ : ∃ w1, w.alloc (.cells #[.int .i64 0, .int .i64 0, .int .i64 0, .int .i64 0, .int .i64 0, .int .i64 0, .int .i64 0, .int .i64 0] 23) = w1 := ⟨_, rfl⟩
  rw [hw1] at B1 X1 XH
  have l0 : w1.cell? ⟨h, 0, none⟩ = some (.slice p l.length c) := XH.out.cell 0
  have r0 : w1.cell? ⟨w.heap.size, 0, none⟩ = some (.int .i64 0) := X1.out.cell 0
  have g0 := X1.out.frozen 0
  have r1 : w1.cell? ⟨w.heap.size, 1, none⟩ = some (.int .i64 0) := X1.out.cell 1
  have g1 := X1.out.frozen 1
  have r2 : w1.cell? ⟨w.heap.size, 2, none⟩ = some (.int .i64 0) := X1.out.cell 2
  have g2 := X1.out.frozen 2
  have r3 : w1.cell? ⟨w.heap.size, 3, none⟩ = some (.int .i64 0) := X1.out.cell 3
  have g3 := X1.out.frozen 3
  have r4 : w1.cell? ⟨w.heap.size, 4, none⟩ = some (.int .i64 0) := X1.out.cell 4
  have g4 := X1.out.frozen 4
  have r5 : w1.cell? ⟨w.heap.size, 5, none⟩ = some (.int .i64 0) := X1.out.cell 5
  have g5 := X1.out.frozen 5
  have r6 : w1.cell? ⟨w.heap.size, 6, none⟩ = some (.int .i64 0) := X1.out.cell 6
  have g6 := X1.out.frozen 6
  have r7 : w1.cell? ⟨w.heap.size, 7, none⟩ = some (.int .i64 0) := X1.out.cell 7
  have g7 := X1.out.frozen 7
  have t9 : (l.length : Int) ≤ 100000 := by omega
  by_cases h1 : id < 1
  · have t0 : decide (id < 1) = true := decide_eq_true h1
    clear hp hr hl hid HE X1 XH h1 hc
    go_enter Try.func17, Try.ntmps17
    go_wp2
    refine bodyPost_ret (v := .tuple #[.agg #[.int .i64 0, .int .i64 0, .int .i64 0, .int .i64 0, .int .i64 0, .int .i64 0, .int .i64 0, .int .i64 0], .int .i64 5]) (by simp [results, Try.results17, go_sem, r0, r1, r2, r3, r4, r5, r6, r7]) rfl ⟨rfl, ?_⟩
    iterate 8 refine Below.setCell ?_ (show w.heap.size ≤ _ from Nat.le_refl _) _
    exact B1.out
  · have t0 : decide (id < 1) = false := decide_eq_false h1
    have h2 : (l.length : Int) < id := by omega
    have t1 : decide (id > (l.length : Int)) = true := decide_eq_true h2
    have t2 : decide ((l.length : Int) < id) = true := decide_eq_true h2
    clear hp hr hl hid HE X1 XH h1 h2 hc
    go_enter Try.func17, Try.ntmps17
    go_wp2
    refine bodyPost_ret (v := .tuple #[.agg #[.int .i64 0, .int .i64 0, .int .i64 0, .int .i64 0, .int .i64 0, .int .i64 0, .int .i64 0, .int .i64 0], .int .i64 5]) (by simp [results, Try.results17, go_sem, r0, r1, r2, r3, r4, r5, r6, r7]) rfl ⟨rfl, ?_⟩
    iterate 8 refine Below.setCell ?_ (show w.heap.size ≤ _ from Nat.le_refl _) _
    exact B1.out
set_option maxRecDepth 100000 in
set_option maxHeartbeats 8000000 in
theorem pcert_some (h k : Nat) (v : Value) (l : List Ct) (x : Ct) (B : Nat) (w : World) (hp : PBo w B h v l) (hl : l.length ≤ 100000) (hx : l[k]? = some x) :
    Calls Try.prog 17 #[.pointer (some ⟨h, 0, none⟩), .int .i64 ((k : Int) + 1)] w fun e w' => e = .returned (.tuple #[cval x, .int .i64 0]) ∧ Below w.heap.size w w' := by
  obtain ⟨p, c, rfl, hc, hr⟩ := hp.read
  have hk : k < l.length := (List.getElem?_eq_some_iff.1 hx).1
  have B1 := Lib.hid (alloc_below w (.cells #[.int .i64 0, .int .i64 0, .int .i64 0, .int .i64 0, .int .i64 0, .int .i64 0, .int .i64 0, .int .i64 0] 23))
  have X1 := Lib.hid (Lies.new w 23 #[.int .i64 0, .int .i64 0, .int .i64 0, .int .i64 0, .int .i64 0, .int .i64 0, .int .i64 0, .int .i64 0])
  have XH := Lib.hid (hp.2.1.alloc (.cells #[.int .i64 0, .int .i64 0, .int .i64 0, .int .i64 0, .int .i64 0, .int .i64 0, .int .i64 0, .int .i64 0] 23))
  have HR := Lib.hid (hr.keep ccells_len B1.out)
  obtain ⟨w1, hw1⟩ : ∃ w1, w.alloc (.cells #[.int .i64 0, .int .i64 0, .int .i64 0, .int .i64 0, .int .i64 0, .int .i64 0, .int .i64 0, .int .i64 0] 23) = w1 := ⟨_, rfl⟩
  rw [hw1] at B1 X1 XH HR
  have l0 : w1.cell? ⟨h, 0, none⟩ = some (.slice p l.length c) := XH.out.cell 0
  obtain ⟨b, o, rfl, hcell⟩ := ct_at HR.out hx
  obtain ⟨ka, kb, kc, kd, ke, kf, kg, kh⟩ := x
  have c0 : w1.cell? ⟨b, o + k * 8, none⟩ = some (.int .i64 ka) := hcell 0 (by decide)
  have c1 : w1.cell? ⟨b, o + k * 8 + 1, none⟩ = some (.int .i64 kb) := hcell 1 (by decide)
  have c2 : w1.cell? ⟨b, o + k * 8 + 2, none⟩ = some (.int .i64 kc) := hcell 2 (by decide)
  have c3 : w1.cell? ⟨b, o + k * 8 + 3, none⟩ = some (.int .i64 kd) := hcell 3 (by decide)
  have c4 : w1.cell? ⟨b, o + k * 8 + 4, none⟩ = some (.int .i64 ke) := hcell 4 (by decide)
  have c5 : w1.cell? ⟨b, o + k * 8 + 5, none⟩ = some (.int .i64 kf) := hcell 5 (by decide)
  have c6 : w1.cell? ⟨b, o + k * 8 + 6, none⟩ = some (.int .i64 kg) := hcell 6 (by decide)
  have c7 : w1.cell? ⟨b, o + k * 8 + 7, none⟩ = some (.int .i64 kh) := hcell 7 (by decide)
  have r0 : w1.cell? ⟨w.heap.size, 0, none⟩ = some (.int .i64 0) := X1.out.cell 0
  have g0 := X1.out.frozen 0
  have r1 : w1.cell? ⟨w.heap.size, 1, none⟩ = some (.int .i64 0) := X1.out.cell 1
  have g1 := X1.out.frozen 1
  have r2 : w1.cell? ⟨w.heap.size, 2, none⟩ = some (.int .i64 0) := X1.out.cell 2
  have g2 := X1.out.frozen 2
  have r3 : w1.cell? ⟨w.heap.size, 3, none⟩ = some (.int .i64 0) := X1.out.cell 3
  have g3 := X1.out.frozen 3
  have r4 : w1.cell? ⟨w.heap.size, 4, none⟩ = some (.int .i64 0) := X1.out.cell 4
  have g4 := X1.out.frozen 4
  have r5 : w1.cell? ⟨w.heap.size, 5, none⟩ = some (.int .i64 0) := X1.out.cell 5
  have g5 := X1.out.frozen 5
  have r6 : w1.cell? ⟨w.heap.size, 6, none⟩ = some (.int .i64 0) := X1.out.cell 6
  have g6 := X1.out.frozen 6
  have r7 : w1.cell? ⟨w.heap.size, 7, none⟩ = some (.int .i64 0) := X1.out.cell 7
  have g7 := X1.out.frozen 7
  have t9 : (l.length : Int) ≤ 100000 := by omega
  have t8 : (k : Int) < (l.length : Int) := by omega
  have t0 : decide ((k : Int) + 1 < 1) = false := decide_eq_false (by omega)
  have t1 : decide ((k : Int) + 1 > (l.length : Int)) = false := decide_eq_false (by omega)
  have t2 : decide ((l.length : Int) < (k : Int) + 1) = false := decide_eq_false (by omega)
  simp only [cval]
  clear hp hr hl hcell X1 XH HR hx hk hc
  go_enter Try.func17, Try.ntmps17
  go_wp2
  refine bodyPost_ret (v := .tuple #[.agg #[.int .i64 ka, .int .i64 kb, .int .i64 kc, .int .i64 kd, .int .i64 ke, .int .i64 kf, .int .i64 kg, .int .i64 kh], .int .i64 0]) (by simp [results, Try.results17, go_sem, r0, r1, r2, r3, r4, r5, r6, r7]) rfl ⟨rfl, ?_⟩
  iterate 8 refine Below.setCell ?_ (show w.heap.size ≤ _ from Nat.le_refl _) _
  exact B1.out
theorem pcert_any (B h : Nat) (F : Nat → Prop) (l : List Ct) (id : Int) (w : World) (hd : DBo w B h F l) (hl : l.length ≤ 100000) : Calls Try.prog 17 #[.pointer (some ⟨h, 0, none⟩), .int .i64 id] w fun e w' => e = .returned (.tuple #[cval (certF l id).1, .int .i64 (certF l id).2]) ∧ Below w.heap.size w w' := by
  obtain ⟨v, hp, _⟩ := hd
  by_cases hid : 1 ≤ id ∧ id ≤ l.length
  · obtain ⟨k, rfl⟩ : ∃ k : Nat, id = (k : Int) + 1 := ⟨(id - 1).toNat, by omega⟩
    have hk : k < l.length := by omega
    have hx : l[k]? = some l[k] := List.getElem?_eq_getElem hk
    have HE : certF l ((k : Int) + 1) = (l[k], 0) := by
      unfold certF
      rw [if_pos hid, show ((k : Int) + 1 - 1).toNat = k by omega, hx]
      rfl
    rw [HE]
    exact pcert_some h k v l _ B w hp hl hx
  · exact pcert_none h v l id B w hp hl hid
theorem flag_next : ∀ {l : List Ct} {now : List Int} {k : Nat} {x : Ct} {n : Int}, l[k]? = some x → now[k]? = some n → flagF (l.take (k + 1)) (now.take (k + 1)) = flagF (l.take k) (now.take k) ++ (if x.allowance < n then [x.id] else [])
  | [], _, k, x, n, h, _ => by simp at h
  | _ :: _, [], k, x, n, _, h => by simp at h
  | c :: l, m :: now, 0, x, n, h, h2 => by
    simp only [List.getElem?_cons_zero, Option.some.injEq] at h h2
    subst h h2
    simp only [Nat.zero_add, List.take_succ_cons, List.take_zero, flagF]
    split <;> rfl
  | c :: l, m :: now, k + 1, x, n, h, h2 => by
    have ih := flag_next (l := l) (now := now) (k := k) (x := x) (n := n) (by simpa using h) (by simpa using h2)
    simp only [List.take_succ_cons, flagF]
    split
    · rw [ih, List.cons_append]
    · exact ih
theorem flag_end : ∀ {l : List Ct} {now : List Int} {m : Nat}, m = min now.length l.length → flagF (l.take m) (now.take m) = flagF l now
  | [], now, m, h => by
    obtain rfl : m = 0 := by simpa using h
    cases now <;> rfl
  | c :: l, [], m, h => by
    obtain rfl : m = 0 := by simpa using h
    rfl
  | c :: l, n :: now, m, h => by
    obtain ⟨m', rfl, h'⟩ : ∃ m', m = m' + 1 ∧ m' = min now.length l.length := ⟨min now.length l.length, by simp only [List.length_cons] at h; omega, rfl⟩
    simp only [List.take_succ_cons, flagF]
    rw [flag_end h']
theorem flag_len (l : List Ct) (now : List Int) : (flagF l now).length ≤ l.length := by
  induction l generalizing now with
  | nil => simp [flagF]
  | cons c l ih =>
    cases now with
    | nil => simp [flagF]
    | cons n now =>
      have := ih now
      simp only [flagF]
      split <;> simp <;> omega
theorem infoN : (Try.prog.info? 3).map (fun i => (i.zero, i.size, i.bytes)) = some (some (.int .i64 0), 1, 8) := by kernel_rfl
theorem icells_one (x : Int) : ∀ u ∈ icells x, u.oneCell' = true := fun u hu => by
  simp only [icells, List.mem_singleton] at hu
  subst hu
  rfl
theorem pint_at {w : World} {p : Option Addr} {n : Nat} {l : List Int} (h : Rw 1 icells w p n l) {k : Nat} {x : Int} (hx : l[k]? = some x) :
    ∃ b o, p = some ⟨b, o, none⟩ ∧ w.cell? ⟨b, o + k, none⟩ = some (.int .i64 x) := by
  have hk := (List.getElem?_eq_some_iff.1 hx).1
  obtain ⟨b, o, e, hc⟩ := h.2 (by rw [← h.1]; omega)
  refine ⟨b, o, e, ?_⟩
  have := hc k x hx 0 (by decide)
  simpa [icells] using this
set_option maxRecDepth 100000 in
set_option maxHeartbeats 8000000 in
theorem pflag_short (B h : Nat) (v : Value) (l : List Ct) (p : Option Addr) (m c0 : Nat) (now : List Int) (w : World) (hp : PBo w B h v l) (hl : l.length ≤ 100000) (hw : Rw 1 icells w p m now) (hn : m ≤ 100000) (hc0 : m ≤ c0) (hmin : m ≤ l.length) :
    Calls Try.prog 20 #[.pointer (some ⟨h, 0, none⟩), .slice p m c0] w fun e w' => ∃ v, e = .returned v ∧ w'.ownsRow w.heap.size 3 1 v (flagF l now).length ((flagF l now).flatMap icells) ∧ Below w.heap.size w w' := by
  obtain ⟨i0, hi0, hz0, hz1, hz2⟩ := info_parts infoN
  obtain ⟨q, c, rfl, hc, hr⟩ := hp.read
  have XH := Lib.hid hp.2.1
  have HR := Lib.hid hr
  have HN := Lib.hid hw
  have HL := Lib.hid hw.1
  have B0 := Lib.hid (Below.refl w.heap.size w)
  have l0 : w.cell? ⟨h, 0, none⟩ = some (.slice q l.length c) := hp.2.1.cell 0
  have t9 : (l.length : Int) ≤ 100000 := by omega
  have t8 : (m : Int) ≤ 100000 := by omega
  have t7 : (m : Int) ≤ (c0 : Int) := by omega
  have t6 : (m : Int) ≤ (l.length : Int) := by omega
  clear hp hr hw
  go_enter Try.func20, Try.ntmps20
  go_wp2
  go_loopw [5, 22] (fun ids i wr => ∃ (k : Nat) (r : List Int), k ≤ m ∧ i = .int .i64 ((k : Nat) : Int) ∧ r = flagF (l.take k) (now.take k) ∧ Hid (wr.ownsRow w.heap.size 3 1 ids r.length (r.flatMap icells)) ∧ Hid (Below w.heap.size w wr)) (fun _ i _ => m - (intOf i).toNat)
  case atStart => exact ⟨0, [], Nat.zero_le _, rfl, by simp [flagF], Lib.hid (World.ownsRow_nil _ _ _ _), B0⟩
  case round =>
    obtain ⟨k, r, hk, rfl, hr, HO, BR⟩ := hrel
    by_cases hlt : k < m
    · have hk3 : (k : Int) < (m : Int) := by omega
      obtain ⟨x, hx⟩ : ∃ x, l[k]? = some x := ⟨_, List.getElem?_eq_getElem (by omega)⟩
      obtain ⟨n, hn⟩ : ∃ n, now[k]? = some n := ⟨_, List.getElem?_eq_getElem (by rw [HL.out]; omega)⟩
      have HX := Lib.hid (flag_next hx hn)
      rw [← hr] at HX
      have HRL := Lib.hid (show r.length ≤ 100000 by
        rw [hr]
        have := flag_len (l.take k) (now.take k)
        rw [List.length_take] at this
        omega)
      obtain ⟨b, o, rfl, hcell⟩ := ct_at (HR.out.keep ccells_len BR.out) hx
      obtain ⟨b2, o2, rfl, hcell2⟩ := pint_at (HN.out.keep icells_len BR.out) hn
      have l0 : wr.cell? ⟨h, 0, none⟩ = some (.slice (some ⟨b, o, none⟩) l.length c) := (XH.out.below BR.out XH.out.lt).cell 0
      have d0 : wr.cell? ⟨b2, o2 + k, none⟩ = some (.int .i64 n) := hcell2
      obtain ⟨ka, kb, kc, kd, ke, kf, kg, kh⟩ := x
      have c0 : wr.cell? ⟨b, o + k * 8, none⟩ = some (.int .i64 ka) := hcell 0 (by decide)
      have c1 : wr.cell? ⟨b, o + k * 8 + 1, none⟩ = some (.int .i64 kb) := hcell 1 (by decide)
      have c2 : wr.cell? ⟨b, o + k * 8 + 2, none⟩ = some (.int .i64 kc) := hcell 2 (by decide)
      have c3 : wr.cell? ⟨b, o + k * 8 + 3, none⟩ = some (.int .i64 kd) := hcell 3 (by decide)
      have c4 : wr.cell? ⟨b, o + k * 8 + 4, none⟩ = some (.int .i64 ke) := hcell 4 (by decide)
      have c5 : wr.cell? ⟨b, o + k * 8 + 5, none⟩ = some (.int .i64 kf) := hcell 5 (by decide)
      have c6 : wr.cell? ⟨b, o + k * 8 + 6, none⟩ = some (.int .i64 kg) := hcell 6 (by decide)
      have c7 : wr.cell? ⟨b, o + k * 8 + 7, none⟩ = some (.int .i64 kh) := hcell 7 (by decide)
      simp only at HX
      clear hcell hcell2 hx hn hr
      have BA := Lib.hid (BR.out.alloc BR.out.size (.cells #[.int .i64 ka, .int .i64 kb, .int .i64 kc, .int .i64 kd, .int .i64 ke, .int .i64 kf, .int .i64 kg, .int .i64 kh] 23))
      have OA := Lib.hid (HO.out.alloc (.cells #[.int .i64 ka, .int .i64 kb, .int .i64 kc, .int .i64 kd, .int .i64 ke, .int .i64 kf, .int .i64 kg, .int .i64 kh] 23))
      by_cases hf : kh < n
      · rw [if_pos hf] at HX
        have u0 : decide (n > kh) = true := decide_eq_true hf
        have u1 : decide (kh < n) = true := decide_eq_true hf
        obtain ⟨wa, hwa⟩ : ∃ wa, wr.alloc (.cells #[.int .i64 ka, .int .i64 kb, .int .i64 kc, .int .i64 kd, .int .i64 ke, .int .i64 kf, .int .i64 kg, .int .i64 kh] 23) = wa := ⟨_, rfl⟩
        have a0 : wa.cell? ⟨wr.heap.size, 0, none⟩ = some (.int .i64 ka) := by rw [← hwa]; exact (Lies.new wr 23 #[.int .i64 ka, .int .i64 kb, .int .i64 kc, .int .i64 kd, .int .i64 ke, .int .i64 kf, .int .i64 kg, .int .i64 kh]).cell 0
        have a7 : wa.cell? ⟨wr.heap.size, 7, none⟩ = some (.int .i64 kh) := by rw [← hwa]; exact (Lies.new wr 23 #[.int .i64 ka, .int .i64 kb, .int .i64 kc, .int .i64 kd, .int .i64 ke, .int .i64 kf, .int .i64 kg, .int .i64 kh]).cell 7
        rw [hwa] at BA OA
        have RO := Lib.hid (Ra.rw_one (k := 1) (enc := icells) wa 3 ka)
        clear hf hlt hk
        go_wp2_with (at_builtin; refine Ra.wpList_app icells_len icells_one Try.underlying35 hi0 hz0 hz1 hz2 rfl (by decide) rfl _ _ rfl (OA.out.alloc _) rfl RO.out rfl (by unfold maxLen; have := HRL.out; omega) (by have := HRL.out; omega) (by have := BA.out.size; simp; omega) ?_; intro q4 d4 w3 hown2 hg2 hb2; have ON := Lib.hid hown2; have BN := Lib.hid ((BA.out.alloc BA.out.size (.cells #[.int .i64 ka] 3)).grown hg2 (by have := BA.out.size; simp; omega) (fun k hk => (own_lt OA.out hk).1)); clear hown2 hg2 hb2)
        go_roundw
        case rel => exact ⟨k + 1, r ++ [ka], by omega, by go_num, HX.out.symm, Lib.hid (by simpa using ON.out), BN⟩
        case measure => simp [intOf]; omega
      · rw [if_neg hf, List.append_nil] at HX
        have u0 : decide (n > kh) = false := decide_eq_false hf
        have u1 : decide (kh < n) = false := decide_eq_false hf
        clear hf hlt hk
        go_wp2
        go_roundw
        case rel => exact ⟨k + 1, r, by omega, by go_num, HX.out.symm, OA, BA⟩
        case measure => simp [intOf]; omega
    · obtain rfl : k = m := by omega
      have HE := Lib.hid (hr.trans (flag_end (l := l) (now := now) (by rw [HL.out]; omega)))
      clear hk hlt hr
      go_wp2
      go_ret
      exact ⟨_, rfl, by rw [← HE.out]; exact HO.out, BR.out⟩
set_option maxRecDepth 100000 in
set_option maxHeartbeats 8000000 in
theorem pflag_long (B h : Nat) (v : Value) (l : List Ct) (p : Option Addr) (m c0 : Nat) (now : List Int) (w : World) (hp : PBo w B h v l) (hl : l.length ≤ 100000) (hw : Rw 1 icells w p m now) (hn : m ≤ 100000) (hc0 : m ≤ c0) (hmin : l.length ≤ m) :
    Calls Try.prog 20 #[.pointer (some ⟨h, 0, none⟩), .slice p m c0] w fun e w' => ∃ v, e = .returned v ∧ w'.ownsRow w.heap.size 3 1 v (flagF l now).length ((flagF l now).flatMap icells) ∧ Below w.heap.size w w' := by
  obtain ⟨i0, hi0, hz0, hz1, hz2⟩ := info_parts infoN
  obtain ⟨q, c, rfl, hc, hr⟩ := hp.read
  have XH := Lib.hid hp.2.1
  have HR := Lib.hid hr
  have HN := Lib.hid hw
  have HL := Lib.hid hw.1
  have B0 := Lib.hid (Below.refl w.heap.size w)
  have l0 : w.cell? ⟨h, 0, none⟩ = some (.slice q l.length c) := hp.2.1.cell 0
  have t9 : (l.length : Int) ≤ 100000 := by omega
  have t8 : (m : Int) ≤ 100000 := by omega
  have t7 : (m : Int) ≤ (c0 : Int) := by omega
  have t6 : (l.length : Int) ≤ (m : Int) := by omega
  have t5 : (l.length : Int) ≤ (c0 : Int) := by omega
  clear hp hr hw
  go_enter Try.func20, Try.ntmps20
  go_wp2
  go_loopw [5, 22] (fun ids i wr => ∃ (k : Nat) (r : List Int), k ≤ l.length ∧ i = .int .i64 ((k : Nat) : Int) ∧ r = flagF (l.take k) (now.take k) ∧ Hid (wr.ownsRow w.heap.size 3 1 ids r.length (r.flatMap icells)) ∧ Hid (Below w.heap.size w wr)) (fun _ i _ => l.length - (intOf i).toNat)
  case atStart => exact ⟨0, [], Nat.zero_le _, rfl, by simp [flagF], Lib.hid (World.ownsRow_nil _ _ _ _), B0⟩
  case round =>
    obtain ⟨k, r, hk, rfl, hr, HO, BR⟩ := hrel
    by_cases hlt : k < l.length
    · have hk3 : (k : Int) < (l.length : Int) := by omega
      obtain ⟨x, hx⟩ : ∃ x, l[k]? = some x := ⟨_, List.getElem?_eq_getElem (by omega)⟩
      obtain ⟨n, hn⟩ : ∃ n, now[k]? = some n := ⟨_, List.getElem?_eq_getElem (by rw [HL.out]; omega)⟩
      have HX := Lib.hid (flag_next hx hn)
      rw [← hr] at HX
      have HRL := Lib.hid (show r.length ≤ 100000 by
        rw [hr]
        have := flag_len (l.take k) (now.take k)
        rw [List.length_take] at this
        omega)
      obtain ⟨b, o, rfl, hcell⟩ := ct_at (HR.out.keep ccells_len BR.out) hx
      obtain ⟨b2, o2, rfl, hcell2⟩ := pint_at (HN.out.keep icells_len BR.out) hn
      have l0 : wr.cell? ⟨h, 0, none⟩ = some (.slice (some ⟨b, o, none⟩) l.length c) := (XH.out.below BR.out XH.out.lt).cell 0
      have d0 : wr.cell? ⟨b2, o2 + k, none⟩ = some (.int .i64 n) := hcell2
      obtain ⟨ka, kb, kc, kd, ke, kf, kg, kh⟩ := x
      have c0 : wr.cell? ⟨b, o + k * 8, none⟩ = some (.int .i64 ka) := hcell 0 (by decide)
      have c1 : wr.cell? ⟨b, o + k * 8 + 1, none⟩ = some (.int .i64 kb) := hcell 1 (by decide)
      have c2 : wr.cell? ⟨b, o + k * 8 + 2, none⟩ = some (.int .i64 kc) := hcell 2 (by decide)
      have c3 : wr.cell? ⟨b, o + k * 8 + 3, none⟩ = some (.int .i64 kd) := hcell 3 (by decide)
      have c4 : wr.cell? ⟨b, o + k * 8 + 4, none⟩ = some (.int .i64 ke) := hcell 4 (by decide)
      have c5 : wr.cell? ⟨b, o + k * 8 + 5, none⟩ = some (.int .i64 kf) := hcell 5 (by decide)
      have c6 : wr.cell? ⟨b, o + k * 8 + 6, none⟩ = some (.int .i64 kg) := hcell 6 (by decide)
      have c7 : wr.cell? ⟨b, o + k * 8 + 7, none⟩ = some (.int .i64 kh) := hcell 7 (by decide)
      simp only at HX
      clear hcell hcell2 hx hn hr
      have BA := Lib.hid (BR.out.alloc BR.out.size (.cells #[.int .i64 ka, .int .i64 kb, .int .i64 kc, .int .i64 kd, .int .i64 ke, .int .i64 kf, .int .i64 kg, .int .i64 kh] 23))
      have OA := Lib.hid (HO.out.alloc (.cells #[.int .i64 ka, .int .i64 kb, .int .i64 kc, .int .i64 kd, .int .i64 ke, .int .i64 kf, .int .i64 kg, .int .i64 kh] 23))
      by_cases hf : kh < n
      · rw [if_pos hf] at HX
        have u0 : decide (n > kh) = true := decide_eq_true hf
        have u1 : decide (kh < n) = true := decide_eq_true hf
        obtain ⟨wa, hwa⟩ : ∃ wa, wr.alloc (.cells #[.int .i64 ka, .int .i64 kb, .int .i64 kc, .int .i64 kd, .int .i64 ke, .int .i64 kf, .int .i64 kg, .int .i64 kh] 23) = wa := ⟨_, rfl⟩
        have a0 : wa.cell? ⟨wr.heap.size, 0, none⟩ = some (.int .i64 ka) := by rw [← hwa]; exact (Lies.new wr 23 #[.int .i64 ka, .int .i64 kb, .int .i64 kc, .int .i64 kd, .int .i64 ke, .int .i64 kf, .int .i64 kg, .int .i64 kh]).cell 0
        have a7 : wa.cell? ⟨wr.heap.size, 7, none⟩ = some (.int .i64 kh) := by rw [← hwa]; exact (Lies.new wr 23 #[.int .i64 ka, .int .i64 kb, .int .i64 kc, .int .i64 kd, .int .i64 ke, .int .i64 kf, .int .i64 kg, .int .i64 kh]).cell 7
        rw [hwa] at BA OA
        have RO := Lib.hid (Ra.rw_one (k := 1) (enc := icells) wa 3 ka)
        clear hf hlt hk
        go_wp2_with (at_builtin; refine Ra.wpList_app icells_len icells_one Try.underlying35 hi0 hz0 hz1 hz2 rfl (by decide) rfl _ _ rfl (OA.out.alloc _) rfl RO.out rfl (by unfold maxLen; have := HRL.out; omega) (by have := HRL.out; omega) (by have := BA.out.size; simp; omega) ?_; intro q4 d4 w3 hown2 hg2 hb2; have ON := Lib.hid hown2; have BN := Lib.hid ((BA.out.alloc BA.out.size (.cells #[.int .i64 ka] 3)).grown hg2 (by have := BA.out.size; simp; omega) (fun k hk => (own_lt OA.out hk).1)); clear hown2 hg2 hb2)
        go_roundw
        case rel => exact ⟨k + 1, r ++ [ka], by omega, by go_num, HX.out.symm, Lib.hid (by simpa using ON.out), BN⟩
        case measure => simp [intOf]; omega
      · rw [if_neg hf, List.append_nil] at HX
        have u0 : decide (n > kh) = false := decide_eq_false hf
        have u1 : decide (kh < n) = false := decide_eq_false hf
        clear hf hlt hk
        go_wp2
        go_roundw
        case rel => exact ⟨k + 1, r, by omega, by go_num, HX.out.symm, OA, BA⟩
        case measure => simp [intOf]; omega
    · obtain rfl : k = l.length := by omega
      have HE := Lib.hid (hr.trans (flag_end (l := l) (now := now) (by rw [HL.out]; omega)))
      clear hk hlt hr
      go_wp2
      go_ret
      exact ⟨_, rfl, by rw [← HE.out]; exact HO.out, BR.out⟩
theorem pflag_any (B h : Nat) (F : Nat → Prop) (l : List Ct) (p : Option Addr) (n c : Nat) (now : List Int) (w : World) (hd : DBo w B h F l) (hl : l.length ≤ 100000) (hw : Rw 1 icells w p n now) (hn : n ≤ 100000) (hc : n ≤ c) :
    Calls Try.prog 20 #[.pointer (some ⟨h, 0, none⟩), .slice p n c] w fun e w' => ∃ v, e = .returned v ∧ w'.ownsRow w.heap.size 3 1 v (flagF l now).length ((flagF l now).flatMap icells) ∧ Below w.heap.size w w' := by
  obtain ⟨v, hp, _⟩ := hd
  by_cases hm : n ≤ l.length
  · exact pflag_short B h v l p n c now w hp hl hw hn hc hm
  · exact pflag_long B h v l p n c now w hp hl hw hn hc (by omega)
end Ce
end Go.Proofs.Ytklhapekfgcplaa
