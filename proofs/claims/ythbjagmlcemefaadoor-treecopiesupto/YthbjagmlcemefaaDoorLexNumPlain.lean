/- Numbers of digits, as plain functions. No program in sight. -/
import Derived.Test.YthbjagmlcemefaaDoorLexAfterPlain
namespace Go.Proofs.YthbjagmlcemefaaDoor

/-- The number of the first k digits. -/
def numTo (s : ByteArray) : Nat → Nat
  | 0 => 0
  | k + 1 => 10 * numTo s k + (byteAt s k - 48).toNat
/-- Digits alone. -/
def Digits (s : ByteArray) : Prop := ∀ j, j < s.size → digitB (byteAt s j) = true
theorem numTo_lt {s : ByteArray} (h : Digits s) (k : Nat) (hk : k ≤ s.size) : numTo s k < 10 ^ k := by
  induction k with
  | zero => simp [numTo]
  | succ k ih =>
    have h1 := h k (by omega)
    simp only [digitB, decide_eq_true_eq] at h1
    have := ih (by omega)
    simp only [numTo, Nat.pow_succ]
    omega
theorem pow18 {k : Nat} (h : k ≤ 18) : 10 ^ k ≤ 1000000000000000000 := by
  have := Nat.pow_le_pow_right (n := 10) (by omega) h
  simpa using this
/-- May it be? -/
def numOk (s : ByteArray) : Bool := decide (s.size ≤ 19 ∧ ¬ (1 < s.size ∧ byteAt s 0 = 48) ∧ numTo s s.size ≤ 9223372036854775807)
def numVal (s : ByteArray) : Nat := if numOk s = true then numTo s s.size else 0
end Go.Proofs.YthbjagmlcemefaaDoor
