/- Frames in plain words: what may be, its bytes, the frame of bytes. No condition but those written. -/
import Derived.Test.YtbnnijcjlafcpaaOcBk
import Derived.Test.YtbnnijcjlafcpaaCkNum
import Derived.Test.YtbnnijcjlafcpaaDgRef
namespace Go.Proofs.Ytbnnijcjlafcpaa.Fr

/-- A frame. -/
structure Frm where
  zone : Int
  seq : Int
  minute : Int
  door : Bool
  opn : Bool
  bits : Nat
/-- A frame's value. -/
def val (f : Frm) : Value := .agg #[.int .i64 f.zone, .int .i64 f.seq, .int .i64 f.minute, .bool f.door, .bool f.opn, .int .u64 (f.bits : Int)]
/-- Whether its numbers may be. -/
def numB (f : Frm) : Bool := decide (1 ≤ f.zone ∧ f.zone ≤ 16 ∧ 0 ≤ f.seq ∧ f.seq ≤ 65535 ∧ 0 ≤ f.minute ∧ f.minute ≤ 1048575)
/-- Whether what it says may be. -/
def saidB (f : Frm) : Bool := if f.door then decide (f.bits = 0) else !f.opn && decide (Hf.rg f.bits ≤ Hf.infR)
def okB (f : Frm) : Bool := numB f && saidB f
theorem num_of {f : Frm} (h : numB f = true) : 1 ≤ f.zone ∧ f.zone ≤ 16 ∧ 0 ≤ f.seq ∧ f.seq ≤ 65535 ∧ 0 ≤ f.minute ∧ f.minute ≤ 1048575 := by simpa [numB] using h
def bit (b : Bool) : Nat := if b then 1 else 0
/-- A frame's bytes, without their sum. -/
def raw (f : Frm) : List Nat :=
  if f.door then Oc.be 1 (bit true) ++ Oc.be 1 f.zone.toNat ++ Oc.be 2 f.seq.toNat ++ Oc.be 3 f.minute.toNat ++ Oc.be 1 (bit f.opn)
  else Oc.be 1 (bit false) ++ Oc.be 1 f.zone.toNat ++ Oc.be 2 f.seq.toNat ++ Oc.be 3 f.minute.toNat ++ Oc.be 8 f.bits
theorem raw_length (f : Frm) : (raw f).length = if f.door then 8 else 15 := by
  unfold raw
  split <;> simp [Oc.be_length]
theorem raw_lt (f : Frm) : ∀ x ∈ raw f, x < 256 := by
  unfold raw
  split <;> exact Oc.mem_app (Oc.mem_app (Oc.mem_app (Oc.mem_app (Oc.be_lt _ _) (Oc.be_lt _ _)) (Oc.be_lt _ _)) (Oc.be_lt _ _)) (Oc.be_lt _ _)
/-- What a frame's tenths are, and the error. -/
def ten (f : Frm) : Int × Nat := if okB f && !f.door then (Hf.tenths f.bits, 0) else (0, 1)
/-- No frame. -/
def zero : Frm := ⟨0, 0, 0, false, false, 0⟩
/-- What bytes would say. -/
def said (b : List Nat) : Frm :=
  ⟨b.getD 1 0, Oc.val ((b.drop 2).take 2), Oc.val ((b.drop 4).take 3), decide (b.length = 10), decide (b.length = 10 ∧ b.getD 7 0 = 1), if b.length = 10 then 0 else Oc.val ((b.drop 7).take 8)⟩
/-- Whether bytes of a good length are a frame's. -/
def bytesB (b : List Nat) : Bool := okB (said b) && (if b.length = 10 then decide (b.getD 0 0 = 1 ∧ b.getD 7 0 ≤ 1) else decide (b.getD 0 0 = 0))
/-- The frame of bytes, and the error. -/
def dec (b : List Nat) : Frm × Nat :=
  if ¬ (b.length = 10 ∨ b.length = 17) then (zero, 2) else if Ck.goodB b = false then (zero, 3) else if bytesB b then (said b, 0) else (zero, 2)
end Go.Proofs.Ytbnnijcjlafcpaa.Fr
