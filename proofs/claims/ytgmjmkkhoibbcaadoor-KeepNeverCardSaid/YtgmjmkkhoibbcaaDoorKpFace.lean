/- What layer 14's laws, and later layers, lean on of package keep: a bundle of contracts, whatever the package is like inside. No condition but those written. -/
import Derived.Test.YtgmjmkkhoibbcaaDoorKpNum
import Derived.Test.YtgmjmkkhoibbcaaDoorMsMap
namespace Go.Proofs.YtgmjmkkhoibbcaaDoor
open Go.RowKit Lo

namespace Kp
/-- A lot as it is told: its stays lie elsewhere. -/
def re (y : Lv) (q : Option Addr) (d : Nat) : Lv := ⟨y.x, q, y.n, d⟩
/-- They read as such, and lie in new memory. -/
def Told (w w' : World) (z : Lv) : Prop := St w' z ∧ ∀ k, Bk z k → w.heap.size ≤ k
/-- Contracts of package keep, in worlds where its own things lie. -/
structure Face where
  R : World → Prop
  on : ∀ {w w' : World}, R w → Below w.heap.size w w' → R w'
  allow : ∀ (p : Ms.Pd) (y : Lv) (w : World), R w → Calls Tryd.prog 17 #[Ms.pval p, lval y] w fun e w' => e = .returned (.int .i64 (allow p y.x)) ∧ Below w.heap.size w w'
  judge : ∀ (p : Ms.Pd) (y : Lv) (x : Int) (w : World), R w → St w y → y.n ≤ 1000000 → Calls Tryd.prog 6 #[Ms.pval p, lval y, .int .i64 x] w fun e w' => ∃ q d, e = .returned (.tuple #[lval (re (judgeL p y x).1 q d), .bool (judgeL p y x).2]) ∧ Told w w' (re (judgeL p y x).1 q d) ∧ Below w.heap.size w w'
  may : ∀ (p : Ms.Pd) (y : Lv) (x now : Int) (w : World), R w → Calls Tryd.prog 19 #[Ms.pval p, lval y, .int .i64 x, .int .i64 now] w fun e w' => e = .returned (.int .i64 (mayL p y.x x now)) ∧ Below w.heap.size w w'
  rel : ∀ (p : Ms.Pd) (y : Lv) (x : Int) (w : World), R w → St w y → y.n ≤ 1000000 → Calls Tryd.prog 8 #[Ms.pval p, lval y, .int .i64 x] w fun e w' => ∃ q d, e = .returned (.tuple #[lval (re (relL p y x).1 q d), .int .i64 (relL p y x).2]) ∧ Told w w' (re (relL p y x).1 q d) ∧ Below w.heap.size w w'
  hold : ∀ (y : Lv) (w : World), R w → St w y → y.n ≤ 1000000 → Calls Tryd.prog 12 #[lval y] w fun e w' => ∃ q d, e = .returned (.tuple #[lval (re (holdL y).1 q d), .int .i64 (holdL y).2]) ∧ Told w w' (re (holdL y).1 q d) ∧ Below w.heap.size w w'
  rev : ∀ (p : Ms.Pd) (y : Lv) (x g : Int) (w : World), R w → St w y → y.n ≤ 1000000 → Calls Tryd.prog 10 #[Ms.pval p, lval y, .int .i64 x, .int .i64 g] w fun e w' => ∃ q d, e = .returned (.tuple #[lval (re (revL p y x g).1 q d), .int .i64 (revL p y x g).2]) ∧ Told w w' (re (revL p y x g).1 q d) ∧ Below w.heap.size w w'
  rej : ∀ (y : Lv) (w : World), R w → St w y → y.n ≤ 1000000 → Calls Tryd.prog 14 #[lval y] w fun e w' => ∃ q d, e = .returned (.tuple #[lval (re (rejL y).1 q d), .int .i64 (rejL y).2]) ∧ Told w w' (re (rejL y).1 q d) ∧ Below w.heap.size w w'
theorem st_none (W : World) (x : Lt) (q : Option Addr) (d : Nat) (h : x.stays = []) : St W ⟨x, q, 0, d⟩ := ⟨by rw [h]; exact rw_zero W q, Nat.zero_le _⟩
theorem told_none (w w' : World) (x : Lt) (q : Option Addr) (d : Nat) (h : x.stays = []) : Told w w' ⟨x, q, 0, d⟩ := ⟨st_none w' x q d h, fun _ hk => absurd hk.1 (Nat.lt_irrefl 0)⟩
theorem st_zero (W : World) : St W lv0 := ⟨rw_nil W, Nat.le_refl _⟩
theorem st_judge {W : World} {y : Lv} (h : St W y) (p : Ms.Pd) (e : Int) : St W (judgeL p y e).1 := by
  unfold judgeL
  split
  · exact h
  · exact h
theorem st_rel {W : World} {y : Lv} (h : St W y) (p : Ms.Pd) (e : Int) : St W (relL p y e).1 := by
  unfold relL
  split
  · exact st_zero W
  · split
    · exact st_zero W
    · exact h
theorem st_rev {W : World} {y : Lv} (h : St W y) (p : Ms.Pd) (e g : Int) : St W (revL p y e g).1 := by
  unfold revL
  split
  · exact st_zero W
  · split
    · exact st_zero W
    · split
      · exact st_zero W
      · exact h
theorem st_hold {W : World} {y : Lv} (h : St W y) : St W (holdL y).1 := by
  unfold holdL
  split
  · exact st_zero W
  · exact h
theorem st_rej {W : World} {y : Lv} (h : St W y) : St W (rejL y).1 := by
  unfold rejL
  split
  · exact st_zero W
  · exact h
/-- No more stays than the lot has. -/
theorem n_judge (p : Ms.Pd) (y : Lv) (e : Int) : (judgeL p y e).1.n ≤ y.n := by
  unfold judgeL
  split <;> exact Nat.le_refl _
theorem n_rel (p : Ms.Pd) (y : Lv) (e : Int) : (relL p y e).1.n ≤ y.n := by
  unfold relL
  split
  · exact Nat.zero_le _
  · split
    · exact Nat.zero_le _
    · exact Nat.le_refl _
theorem n_rev (p : Ms.Pd) (y : Lv) (e g : Int) : (revL p y e g).1.n ≤ y.n := by
  unfold revL
  split
  · exact Nat.zero_le _
  · split
    · exact Nat.zero_le _
    · split
      · exact Nat.zero_le _
      · exact Nat.le_refl _
theorem n_hold (y : Lv) : (holdL y).1.n ≤ y.n := by
  unfold holdL
  split
  · exact Nat.zero_le _
  · exact Nat.le_refl _
theorem n_rej (y : Lv) : (rejL y).1.n ≤ y.n := by
  unfold rejL
  split
  · exact Nat.zero_le _
  · exact Nat.le_refl _
end Kp
end Go.Proofs.YtgmjmkkhoibbcaaDoor
