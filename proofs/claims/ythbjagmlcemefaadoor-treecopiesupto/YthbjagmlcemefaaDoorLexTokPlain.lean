/- The token at a place of a text of bytes, as plain functions. No program in sight. -/
import Derived.Test.YthbjagmlcemefaaDoorLexNumPlain
namespace Go.Proofs.YthbjagmlcemefaaDoor

/-- The place behind letters and digits, at most n bytes on. -/
def wordEndN (s : ByteArray) : Nat → Nat → Nat
  | 0, k => k
  | n + 1, k => if k < s.size ∧ (letterB (byteAt s k) = true ∨ digitB (byteAt s k) = true) then wordEndN s n (k + 1) else k
/-- The place behind letters and digits. -/
def wordEnd (s : ByteArray) (k : Nat) : Nat := wordEndN s (s.size - k) k
theorem wordEnd_eq (s : ByteArray) (k : Nat) : wordEnd s k = if k < s.size ∧ (letterB (byteAt s k) = true ∨ digitB (byteAt s k) = true) then wordEnd s (k + 1) else k := by
  unfold wordEnd
  by_cases h : k < s.size
  · rw [show s.size - k = (s.size - (k + 1)) + 1 by omega, wordEndN]
  · rw [if_neg (fun g => h g.1), show s.size - k = 0 by omega, wordEndN]
/-- The place behind digits, at most n bytes on. -/
def digitEndN (s : ByteArray) : Nat → Nat → Nat
  | 0, k => k
  | n + 1, k => if k < s.size ∧ digitB (byteAt s k) = true then digitEndN s n (k + 1) else k
/-- The place behind digits. -/
def digitEnd (s : ByteArray) (k : Nat) : Nat := digitEndN s (s.size - k) k
theorem digitEnd_eq (s : ByteArray) (k : Nat) : digitEnd s k = if k < s.size ∧ digitB (byteAt s k) = true then digitEnd s (k + 1) else k := by
  unfold digitEnd
  by_cases h : k < s.size
  · rw [show s.size - k = (s.size - (k + 1)) + 1 by omega, digitEndN]
  · rw [if_neg (fun g => h g.1), show s.size - k = 0 by omega, digitEndN]
theorem wordEnd_step {s : ByteArray} {k : Nat} (h : k < s.size) (g : letterB (byteAt s k) = true ∨ digitB (byteAt s k) = true) : wordEnd s (k + 1) = wordEnd s k := by
  conv => rhs; rw [wordEnd_eq, if_pos ⟨h, g⟩]
theorem wordEnd_here {s : ByteArray} {k : Nat} (h : ¬ k < s.size ∨ (letterB (byteAt s k) = false ∧ digitB (byteAt s k) = false)) : wordEnd s k = k := by
  rw [wordEnd_eq, if_neg]
  rintro ⟨h1, h2⟩
  rcases h with h | ⟨a, b⟩
  · exact h h1
  · rw [a, b] at h2
    simp at h2
theorem digitEnd_step {s : ByteArray} {k : Nat} (h : k < s.size) (g : digitB (byteAt s k) = true) : digitEnd s (k + 1) = digitEnd s k := by
  conv => rhs; rw [digitEnd_eq, if_pos ⟨h, g⟩]
theorem digitEnd_here {s : ByteArray} {k : Nat} (h : ¬ k < s.size ∨ digitB (byteAt s k) = false) : digitEnd s k = k := by
  rw [digitEnd_eq, if_neg]
  rintro ⟨h1, h2⟩
  rcases h with h | a
  · exact h h1
  · rw [a] at h2
    simp at h2
theorem wordEnd_ge (s : ByteArray) (k : Nat) : k ≤ wordEnd s k := by
  induction hm : s.size - k using Nat.strongRecOn generalizing k with
  | ind m ih =>
    rw [wordEnd_eq]
    split
    · have := ih (s.size - (k + 1)) (by omega) (k + 1) rfl
      omega
    · omega
theorem wordEnd_le (s : ByteArray) (k : Nat) (h : k ≤ s.size) : wordEnd s k ≤ s.size := by
  induction hm : s.size - k using Nat.strongRecOn generalizing k with
  | ind m ih =>
    rw [wordEnd_eq]
    split
    · exact ih (s.size - (k + 1)) (by omega) (k + 1) (by omega) rfl
    · exact h
theorem digitEnd_ge (s : ByteArray) (k : Nat) : k ≤ digitEnd s k := by
  induction hm : s.size - k using Nat.strongRecOn generalizing k with
  | ind m ih =>
    rw [digitEnd_eq]
    split
    · have := ih (s.size - (k + 1)) (by omega) (k + 1) rfl
      omega
    · omega
theorem digitEnd_le (s : ByteArray) (k : Nat) (h : k ≤ s.size) : digitEnd s k ≤ s.size := by
  induction hm : s.size - k using Nat.strongRecOn generalizing k with
  | ind m ih =>
    rw [digitEnd_eq]
    split
    · exact ih (s.size - (k + 1)) (by omega) (k + 1) (by omega) rfl
    · exact h
theorem digitEnd_all (s : ByteArray) (k j : Nat) (h : k ≤ j) (g : j < digitEnd s k) : digitB (byteAt s j) = true := by
  induction hm : s.size - k using Nat.strongRecOn generalizing k with
  | ind m ih =>
    rw [digitEnd_eq] at g
    split at g
    · rename_i h1
      by_cases e : j = k
      · subst e; exact h1.2
      · exact ih (s.size - (k + 1)) (by omega) (k + 1) (by omega) g rfl
    · omega
theorem byteAt_extract (s : ByteArray) (a b j : Nat) (hb : b ≤ s.size) (hj : a + j < b) : byteAt (s.extract a b) j = byteAt s (a + j) := by
  have h1 : j < (s.extract a b).size := by rw [ByteArray.size_extract]; omega
  rw [byteAt_lt h1, byteAt_lt (by omega)]
  congr 2
  rw [ByteArray.getElem_extract]
theorem digits_extract (s : ByteArray) (k : Nat) (h : k ≤ s.size) : Digits (s.extract k (digitEnd s k)) := by
  intro j hj
  rw [ByteArray.size_extract] at hj
  have := digitEnd_le s k h
  rw [byteAt_extract s k _ j this (by omega)]
  exact digitEnd_all s k (k + j) (by omega) (by omega)

/-- The signs, the longer ones first. -/
def signTexts : List ByteArray := [⟨#[42, 94]⟩, ⟨#[47, 94]⟩, ⟨#[126, 62]⟩, ⟨#[58, 58]⟩, ⟨#[60, 62]⟩, ⟨#[60, 61]⟩, ⟨#[62, 61]⟩, ⟨#[40]⟩, ⟨#[41]⟩, ⟨#[59]⟩, ⟨#[58]⟩, ⟨#[44]⟩, ⟨#[61]⟩, ⟨#[60]⟩, ⟨#[62]⟩, ⟨#[43]⟩, ⟨#[45]⟩, ⟨#[42]⟩, ⟨#[47]⟩, ⟨#[37]⟩]
/-- Does this text stand there? -/
def standsB (s : ByteArray) (k : Nat) (t : ByteArray) : Bool := decide (t.size ≤ s.size - k ∧ (s.extract k (k + t.size)).toList = t.toList)
/-- The first one of a list that stands there. -/
def signAt (s : ByteArray) (k : Nat) (l : List ByteArray) : Option ByteArray := l.find? (standsB s k)

theorem signAt_hit (s : ByteArray) (k : Nat) (l : List ByteArray) (j : Nat) (hj : j < l.length) (h : ∀ i, (hi : i < l.length) → i < j → standsB s k l[i] = false) (g : standsB s k l[j] = true) : signAt s k l = some l[j] := by
  unfold signAt
  rw [List.find?_eq_some_iff_getElem]
  refine ⟨g, j, hj, rfl, fun i hi => ?_⟩
  rw [h i (by omega) hi]
  rfl
theorem signAt_none (s : ByteArray) (k : Nat) (l : List ByteArray) (h : ∀ i, (hi : i < l.length) → standsB s k l[i] = false) : signAt s k l = none := by
  unfold signAt
  rw [List.find?_eq_none]
  intro x hx
  obtain ⟨i, hi, rfl⟩ := List.getElem_of_mem hx
  rw [h i hi]
  simp
/-- A token. -/
structure Tok where
  kind : Int
  text : ByteArray
  int : Int
  place : Nat
/-- The token of a sign. -/
def signTok (o : Option ByteArray) (k : Nat) : Tok × Int := match o with
  | some t => (⟨4, t, 0, k⟩, 0)
  | none => (⟨0, ⟨#[]⟩, 0, 0⟩, 30)
/-- The token at a place, and its error. -/
def tokenOf (s : ByteArray) (k : Nat) : Tok × Int :=
  if letterB (byteAt s k) = true then
    if wordEnd s k - k ≤ 32 then (⟨if wordB (s.extract k (wordEnd s k)) = true then 3 else 1, s.extract k (wordEnd s k), 0, k⟩, 0)
    else (⟨0, ⟨#[]⟩, 0, 0⟩, 32)
  else if digitB (byteAt s k) = true then
    if numOk (s.extract k (digitEnd s k)) = true then (⟨2, s.extract k (digitEnd s k), numVal (s.extract k (digitEnd s k)), k⟩, 0)
    else (⟨0, ⟨#[]⟩, 0, 0⟩, 31)
  else signTok (signAt s k signTexts) k
end Go.Proofs.YthbjagmlcemefaaDoor
