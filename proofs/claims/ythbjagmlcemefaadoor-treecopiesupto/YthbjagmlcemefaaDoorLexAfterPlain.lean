/- Blanks, remarks and numbers of a text of bytes, as plain functions. No program in sight. -/
import Derived.Test.YthbjagmlcemefaaDoorLexPlain
namespace Go.Proofs.YthbjagmlcemefaaDoor

def blankB (c : Int) : Bool := decide (c = 32 ∨ c = 9 ∨ c = 10 ∨ c = 13)
/-- Do two hyphens stand there? -/
def hyphensB (s : ByteArray) (k : Nat) : Bool := decide (byteAt s k = 45 ∧ k + 1 < s.size ∧ byteAt s (k + 1) = 45)
/-- The next byte 10 from a place on, or the end: at most n bytes on. -/
def lineEndN (s : ByteArray) : Nat → Nat → Nat
  | 0, k => k
  | n + 1, k => if k < s.size ∧ byteAt s k ≠ 10 then lineEndN s n (k + 1) else k
/-- The next byte 10 from a place on, or the end. -/
def lineEnd (s : ByteArray) (k : Nat) : Nat := lineEndN s (s.size - k) k
theorem lineEnd_eq (s : ByteArray) (k : Nat) : lineEnd s k = if k < s.size ∧ byteAt s k ≠ 10 then lineEnd s (k + 1) else k := by
  unfold lineEnd
  by_cases h : k < s.size
  · rw [show s.size - k = (s.size - (k + 1)) + 1 by omega, lineEndN]
  · rw [if_neg (by omega), show s.size - k = 0 by omega, lineEndN]
theorem lineEnd_ge (s : ByteArray) (k : Nat) : k ≤ lineEnd s k := by
  induction hm : s.size - k using Nat.strongRecOn generalizing k with
  | ind m ih =>
    rw [lineEnd_eq]
    split
    · have := ih (s.size - (k + 1)) (by omega) (k + 1) rfl
      omega
    · omega
theorem lineEnd_le (s : ByteArray) (k : Nat) (h : k ≤ s.size) : lineEnd s k ≤ s.size := by
  induction hm : s.size - k using Nat.strongRecOn generalizing k with
  | ind m ih =>
    rw [lineEnd_eq]
    split
    · exact ih (s.size - (k + 1)) (by omega) (k + 1) (by omega) rfl
    · exact h
theorem lineEnd_gt (s : ByteArray) (k : Nat) (h : k < s.size) (g : byteAt s k = 45) : k < lineEnd s k := by
  rw [lineEnd_eq, if_pos ⟨h, by omega⟩]
  have := lineEnd_ge s (k + 1)
  omega
theorem lineEnd_step {s : ByteArray} {k : Nat} (h : k < s.size) (g : byteAt s k ≠ 10) : lineEnd s (k + 1) = lineEnd s k := by
  conv => rhs; rw [lineEnd_eq, if_pos ⟨h, g⟩]
theorem lineEnd_here {s : ByteArray} {k : Nat} (g : ¬ k < s.size ∨ byteAt s k = 10) : lineEnd s k = k := by
  rw [lineEnd_eq, if_neg (by omega)]
theorem hyphens_gt {s : ByteArray} {k : Nat} (h : k < s.size) (r : hyphensB s k = true) : k < lineEnd s k :=
  lineEnd_gt s k h (by simp only [hyphensB, decide_eq_true_eq] at r; omega)
/-- The place behind blanks and remarks: by at most n steps. -/
def afterToN (s : ByteArray) : Nat → Nat → Nat
  | 0, k => k
  | n + 1, k => if k < s.size then (if blankB (byteAt s k) = true then afterToN s n (k + 1) else if hyphensB s k = true then afterToN s n (lineEnd s k) else k) else k
theorem afterToN_far (s : ByteArray) (n : Nat) : ∀ m k, s.size - k ≤ n → s.size - k ≤ m → afterToN s n k = afterToN s m k := by
  induction n with
  | zero =>
    intro m k h1 h2
    cases m with
    | zero => rfl
    | succ m => rw [afterToN, afterToN, if_neg (by omega)]
  | succ n ih =>
    intro m k h1 h2
    by_cases h : k < s.size
    · obtain ⟨q, rfl⟩ : ∃ q, m = q + 1 := ⟨m - 1, by omega⟩
      rw [afterToN, afterToN, if_pos h, if_pos h]
      by_cases h3 : blankB (byteAt s k) = true
      · rw [if_pos h3, if_pos h3]
        exact ih q (k + 1) (by omega) (by omega)
      · rw [if_neg h3, if_neg h3]
        by_cases h4 : hyphensB s k = true
        · rw [if_pos h4, if_pos h4]
          have := hyphens_gt h h4
          exact ih q _ (by omega) (by omega)
        · rw [if_neg h4, if_neg h4]
    · cases m with
      | zero => rw [afterToN, afterToN, if_neg h]
      | succ m => rw [afterToN, afterToN, if_neg h, if_neg h]
/-- The place behind blanks and remarks. -/
def afterTo (s : ByteArray) (k : Nat) : Nat := afterToN s (s.size - k) k
theorem afterTo_eq (s : ByteArray) (k : Nat) : afterTo s k = if k < s.size then (if blankB (byteAt s k) = true then afterTo s (k + 1) else if hyphensB s k = true then afterTo s (lineEnd s k) else k) else k := by
  unfold afterTo
  by_cases h : k < s.size
  · rw [if_pos h, show s.size - k = (s.size - (k + 1)) + 1 by omega, afterToN, if_pos h]
    by_cases h3 : blankB (byteAt s k) = true
    · rw [if_pos h3, if_pos h3]
    · rw [if_neg h3, if_neg h3]
      by_cases h4 : hyphensB s k = true
      · rw [if_pos h4, if_pos h4]
        have := hyphens_gt h h4
        exact afterToN_far s _ _ _ (by omega) (by omega)
      · rw [if_neg h4, if_neg h4]
  · rw [if_neg h, show s.size - k = 0 by omega, afterToN]
theorem afterTo_le (s : ByteArray) (k : Nat) (h : k ≤ s.size) : afterTo s k ≤ s.size := by
  induction hm : s.size - k using Nat.strongRecOn generalizing k with
  | ind m ih =>
    rw [afterTo_eq]
    by_cases h1 : k < s.size
    · rw [if_pos h1]
      split
      · exact ih (s.size - (k + 1)) (by omega) (k + 1) (by omega) rfl
      · by_cases h2 : hyphensB s k = true
        · rw [if_pos h2]
          have := hyphens_gt h1 h2
          exact ih (s.size - lineEnd s k) (by omega) (lineEnd s k) (lineEnd_le s k h) rfl
        · rw [if_neg h2]
          omega
    · rw [if_neg h1]
      omega
theorem afterTo_ge (s : ByteArray) (k : Nat) : k ≤ afterTo s k := by
  induction hm : s.size - k using Nat.strongRecOn generalizing k with
  | ind m ih =>
    rw [afterTo_eq]
    by_cases h1 : k < s.size
    · rw [if_pos h1]
      split
      · have := ih (s.size - (k + 1)) (by omega) (k + 1) rfl
        omega
      · by_cases h2 : hyphensB s k = true
        · rw [if_pos h2]
          have := hyphens_gt h1 h2
          have := ih (s.size - lineEnd s k) (by omega) (lineEnd s k) rfl
          omega
        · rw [if_neg h2]
          omega
    · rw [if_neg h1]
      omega
theorem afterTo_blank {s : ByteArray} {k : Nat} (h : k < s.size) (g : blankB (byteAt s k) = true) : afterTo s (k + 1) = afterTo s k := by
  conv => rhs; rw [afterTo_eq, if_pos h, if_pos g]
theorem afterTo_remark {s : ByteArray} {k : Nat} (h : k < s.size) (g : blankB (byteAt s k) = false) (r : hyphensB s k = true) : afterTo s (lineEnd s k) = afterTo s k := by
  conv => rhs; rw [afterTo_eq, if_pos h, if_neg (by simp [g]), if_pos r]
theorem afterTo_here {s : ByteArray} {k : Nat} (h : k < s.size) (g : blankB (byteAt s k) = false) (r : hyphensB s k = false) : afterTo s k = k := by
  rw [afterTo_eq, if_pos h, if_neg (by simp [g]), if_neg (by simp [r])]
theorem afterTo_end {s : ByteArray} {k : Nat} (h : ¬ k < s.size) : afterTo s k = k := by
  rw [afterTo_eq, if_neg h]
end Go.Proofs.YthbjagmlcemefaaDoor
