/- Blanks, remarks and numbers of a text of bytes, as plain functions. No program in sight. -/
import Derived.Test.YthbgnpkgglbhjaaGreatDoorLexPlain
import Derived.KernelRfl
import Derived.Test.YthbgnpkgglbhjaaGreatDoorProg
import Derived.WalkKit
import Derived.Deep.AppendLies
import Derived.OwnWalk
import Derived.Deep.Onto
import Derived.Laws.OwnMore
namespace Go.Proofs.YthbgnpkgglbhjaaGreatDoor

def blankB (c : Int) : Bool := decide (c = 32 ∨ c = 9 ∨ c = 10 ∨ c = 13)
/-- Do two hyphens stand there? -/
def hyphensB (s : ByteArray) (k : Nat) : Bool := decide (byteAt s k = 45 ∧ k + 1 < s.size ∧ byteAt s (k + 1) = 45)
/-- The next byte 10 from a place on, or the end: at most n bytes on. -/
def lineEndN (s : ByteArray) : Nat → Nat → Nat
  | 0, k => k
  | n + 1, k => if k < s.size ∧ byteAt s k ≠ 10 then lineEndN s n (k + 1) else k
/-- The next byte 10 from a place on, or the end. -/
def lineEnd (s : ByteArray) (k : Nat) : Nat := lineEndN s (s.size - k) k
theorem lineEnd_eq (s : ByteArray) (k : Nat) : lineEnd s k = if k < s.size ∧ byteAt s k ≠ 10 then lineEnd s (k + 1) else k := by
  unfold lineEnd
  by_cases h : k < s.size
  · rw [show s.size - k = (s.size - (k + 1)) + 1 by omega, lineEndN]
  · rw [if_neg (by omega), show s.size - k = 0 by omega, lineEndN]
theorem lineEnd_ge (s : ByteArray) (k : Nat) : k ≤ lineEnd s k := by
  induction hm : s.size - k using Nat.strongRecOn generalizing k with
  | ind m ih =>
    rw [lineEnd_eq]
    split
    · have := ih (s.size - (k + 1)) (by omega) (k + 1) rfl
      omega
    · omega
theorem lineEnd_le (s : ByteArray) (k : Nat) (h : k ≤ s.size) : lineEnd s k ≤ s.size := by
  induction hm : s.size - k using Nat.strongRecOn generalizing k with
  | ind m ih =>
    rw [lineEnd_eq]
    split
    · exact ih (s.size - (k + 1)) (by omega) (k + 1) (by omega) rfl
    · exact h
theorem lineEnd_gt (s : ByteArray) (k : Nat) (h : k < s.size) (g : byteAt s k = 45) : k < lineEnd s k := by
  rw [lineEnd_eq, if_pos ⟨h, by omega⟩]
  have := lineEnd_ge s (k + 1)
  omega
theorem lineEnd_step {s : ByteArray} {k : Nat} (h : k < s.size) (g : byteAt s k ≠ 10) : lineEnd s (k + 1) = lineEnd s k := by
  conv => rhs; rw [lineEnd_eq, if_pos ⟨h, g⟩]
theorem lineEnd_here {s : ByteArray} {k : Nat} (g : ¬ k < s.size ∨ byteAt s k = 10) : lineEnd s k = k := by
  rw [lineEnd_eq, if_neg (by omega)]
theorem hyphens_gt {s : ByteArray} {k : Nat} (h : k < s.size) (r : hyphensB s k = true) : k < lineEnd s k :=
  lineEnd_gt s k h (by simp only [hyphensB, decide_eq_true_eq] at r; omega)
/-- The place behind blanks and remarks: by at most n steps. -/
def afterToN (s : ByteArray) : Nat → Nat → Nat
  | 0, k => k
  | n + 1, k => if k < s.size then (if blankB (byteAt s k) = true then afterToN s n (k + 1) else if hyphensB s k = true then afterToN s n (lineEnd s k) else k) else k
theorem afterToN_far (s : ByteArray) (n : Nat) : ∀ m k, s.size - k ≤ n → s.size - k ≤ m → afterToN s n k = afterToN s m k := by
  induction n with
  | zero =>
    intro m k h1 h2
    cases m with
    | zero => rfl
    | succ m => rw [afterToN, afterToN, if_neg (by omega)]
  | succ n ih =>
    intro m k h1 h2
    by_cases h : k < s.size
    · obtain ⟨q, rfl⟩ : ∃ q, m = q + 1 := ⟨m - 1, by omega⟩
      rw [afterToN, afterToN, if_pos h, if_pos h]
      by_cases h3 : blankB (byteAt s k) = true
      · rw [if_pos h3, if_pos h3]
        exact ih q (k + 1) (by omega) (by omega)
      · rw [if_neg h3, if_neg h3]
        by_cases h4 : hyphensB s k = true
        · rw [if_pos h4, if_pos h4]
          have := hyphens_gt h h4
          exact ih q _ (by omega) (by omega)
        · rw [if_neg h4, if_neg h4]
    · cases m with
      | zero => rw [afterToN, afterToN, if_neg h]
      | succ m => rw [afterToN, afterToN, if_neg h, if_neg h]
/-- The place behind blanks and remarks. -/
def afterTo (s : ByteArray) (k : Nat) : Nat := afterToN s (s.size - k) k
theorem afterTo_eq (s : ByteArray) (k : Nat) : afterTo s k = if k < s.size then (if blankB (byteAt s k) = true then afterTo s (k + 1) else if hyphensB s k = true then afterTo s (lineEnd s k) else k) else k := by
  unfold afterTo
  by_cases h : k < s.size
  · rw [if_pos h, show s.size - k = (s.size - (k + 1)) + 1 by omega, afterToN, if_pos h]
    by_cases h3 : blankB (byteAt s k) = true
    · rw [if_pos h3, if_pos h3]
    · rw [if_neg h3, if_neg h3]
      by_cases h4 : hyphensB s k = true
      · rw [if_pos h4, if_pos h4]
        have := hyphens_gt h h4
        exact afterToN_far s _ _ _ (by omega) (by omega)
      · rw [if_neg h4, if_neg h4]
  · rw [if_neg h, show s.size - k = 0 by omega, afterToN]
theorem afterTo_le (s : ByteArray) (k : Nat) (h : k ≤ s.size) : afterTo s k ≤ s.size := by
  induction hm : s.size - k using Nat.strongRecOn generalizing k with
  | ind m ih =>
    rw [afterTo_eq]
    by_cases h1 : k < s.size
    · rw [if_pos h1]
      split
      · exact ih (s.size - (k + 1)) (by omega) (k + 1) (by omega) rfl
      · by_cases h2 : hyphensB s k = true
        · rw [if_pos h2]
          have := hyphens_gt h1 h2
          exact ih (s.size - lineEnd s k) (by omega) (lineEnd s k) (lineEnd_le s k h) rfl
        · rw [if_neg h2]
          omega
    · rw [if_neg h1]
      omega
theorem afterTo_ge (s : ByteArray) (k : Nat) : k ≤ afterTo s k := by
  induction hm : s.size - k using Nat.strongRecOn generalizing k with
  | ind m ih =>
    rw [afterTo_eq]
    by_cases h1 : k < s.size
    · rw [if_pos h1]
      split
      · have := ih (s.size - (k + 1)) (by omega) (k + 1) rfl
        omega
      · by_cases h2 : hyphensB s k = true
        · rw [if_pos h2]
          have := hyphens_gt h1 h2
          have := ih (s.size - lineEnd s k) (by omega) (lineEnd s k) rfl
          omega
        · rw [if_neg h2]
          omega
    · rw [if_neg h1]
      omega
theorem afterTo_blank {s : ByteArray} {k : Nat} (h : k < s.size) (g : blankB (byteAt s k) = true) : afterTo s (k + 1) = afterTo s k := by
  conv => rhs; rw [afterTo_eq, if_pos h, if_pos g]
theorem afterTo_remark {s : ByteArray} {k : Nat} (h : k < s.size) (g : blankB (byteAt s k) = false) (r : hyphensB s k = true) : afterTo s (lineEnd s k) = afterTo s k := by
  conv => rhs; rw [afterTo_eq, if_pos h, if_neg (by simp [g]), if_pos r]
theorem afterTo_here {s : ByteArray} {k : Nat} (h : k < s.size) (g : blankB (byteAt s k) = false) (r : hyphensB s k = false) : afterTo s k = k := by
  rw [afterTo_eq, if_pos h, if_neg (by simp [g]), if_neg (by simp [r])]
theorem afterTo_end {s : ByteArray} {k : Nat} (h : ¬ k < s.size) : afterTo s k = k := by
  rw [afterTo_eq, if_neg h]
end Go.Proofs.YthbgnpkgglbhjaaGreatDoor
/- Numbers of digits, as plain functions. No program in sight. -/
namespace Go.Proofs.YthbgnpkgglbhjaaGreatDoor

/-- The number of the first k digits. -/
def numTo (s : ByteArray) : Nat → Nat
  | 0 => 0
  | k + 1 => 10 * numTo s k + (byteAt s k - 48).toNat
/-- Digits alone. -/
def Digits (s : ByteArray) : Prop := ∀ j, j < s.size → digitB (byteAt s j) = true
theorem numTo_lt {s : ByteArray} (h : Digits s) (k : Nat) (hk : k ≤ s.size) : numTo s k < 10 ^ k := by
  induction k with
  | zero => simp [numTo]
  | succ k ih =>
    have h1 := h k (by omega)
    simp only [digitB, decide_eq_true_eq] at h1
    have := ih (by omega)
    simp only [numTo, Nat.pow_succ]
    omega
theorem pow18 {k : Nat} (h : k ≤ 18) : 10 ^ k ≤ 1000000000000000000 := by
  have := Nat.pow_le_pow_right (n := 10) (by omega) h
  simpa using this
/-- May it be? -/
def numOk (s : ByteArray) : Bool := decide (s.size ≤ 19 ∧ ¬ (1 < s.size ∧ byteAt s 0 = 48) ∧ numTo s s.size ≤ 9223372036854775807)
def numVal (s : ByteArray) : Nat := if numOk s = true then numTo s s.size else 0
end Go.Proofs.YthbgnpkgglbhjaaGreatDoor
/- The token at a place of a text of bytes, as plain functions. No program in sight. -/
namespace Go.Proofs.YthbgnpkgglbhjaaGreatDoor

/-- The place behind letters and digits, at most n bytes on. -/
def wordEndN (s : ByteArray) : Nat → Nat → Nat
  | 0, k => k
  | n + 1, k => if k < s.size ∧ (letterB (byteAt s k) = true ∨ digitB (byteAt s k) = true) then wordEndN s n (k + 1) else k
/-- The place behind letters and digits. -/
def wordEnd (s : ByteArray) (k : Nat) : Nat := wordEndN s (s.size - k) k
theorem wordEnd_eq (s : ByteArray) (k : Nat) : wordEnd s k = if k < s.size ∧ (letterB (byteAt s k) = true ∨ digitB (byteAt s k) = true) then wordEnd s (k + 1) else k := by
  unfold wordEnd
  by_cases h : k < s.size
  · rw [show s.size - k = (s.size - (k + 1)) + 1 by omega, wordEndN]
  · rw [if_neg (fun g => h g.1), show s.size - k = 0 by omega, wordEndN]
/-- The place behind digits, at most n bytes on. -/
def digitEndN (s : ByteArray) : Nat → Nat → Nat
  | 0, k => k
  | n + 1, k => if k < s.size ∧ digitB (byteAt s k) = true then digitEndN s n (k + 1) else k
/-- The place behind digits. -/
def digitEnd (s : ByteArray) (k : Nat) : Nat := digitEndN s (s.size - k) k
theorem digitEnd_eq (s : ByteArray) (k : Nat) : digitEnd s k = if k < s.size ∧ digitB (byteAt s k) = true then digitEnd s (k + 1) else k := by
  unfold digitEnd
  by_cases h : k < s.size
  · rw [show s.size - k = (s.size - (k + 1)) + 1 by omega, digitEndN]
  · rw [if_neg (fun g => h g.1), show s.size - k = 0 by omega, digitEndN]
theorem wordEnd_step {s : ByteArray} {k : Nat} (h : k < s.size) (g : letterB (byteAt s k) = true ∨ digitB (byteAt s k) = true) : wordEnd s (k + 1) = wordEnd s k := by
  conv => rhs; rw [wordEnd_eq, if_pos ⟨h, g⟩]
theorem wordEnd_here {s : ByteArray} {k : Nat} (h : ¬ k < s.size ∨ (letterB (byteAt s k) = false ∧ digitB (byteAt s k) = false)) : wordEnd s k = k := by
  rw [wordEnd_eq, if_neg]
  rintro ⟨h1, h2⟩
  rcases h with h | ⟨a, b⟩
  · exact h h1
  · rw [a, b] at h2
    simp at h2
theorem digitEnd_step {s : ByteArray} {k : Nat} (h : k < s.size) (g : digitB (byteAt s k) = true) : digitEnd s (k + 1) = digitEnd s k := by
  conv => rhs; rw [digitEnd_eq, if_pos ⟨h, g⟩]
theorem digitEnd_here {s : ByteArray} {k : Nat} (h : ¬ k < s.size ∨ digitB (byteAt s k) = false) : digitEnd s k = k := by
  rw [digitEnd_eq, if_neg]
  rintro ⟨h1, h2⟩
  rcases h with h | a
  · exact h h1
  · rw [a] at h2
    simp at h2
theorem wordEnd_ge (s : ByteArray) (k : Nat) : k ≤ wordEnd s k := by
  induction hm : s.size - k using Nat.strongRecOn generalizing k with
  | ind m ih =>
    rw [wordEnd_eq]
    split
    · have := ih (s.size - (k + 1)) (by omega) (k + 1) rfl
      omega
    · omega
theorem wordEnd_le (s : ByteArray) (k : Nat) (h : k ≤ s.size) : wordEnd s k ≤ s.size := by
  induction hm : s.size - k using Nat.strongRecOn generalizing k with
  | ind m ih =>
    rw [wordEnd_eq]
    split
    · exact ih (s.size - (k + 1)) (by omega) (k + 1) (by omega) rfl
    · exact h
theorem digitEnd_ge (s : ByteArray) (k : Nat) : k ≤ digitEnd s k := by
  induction hm : s.size - k using Nat.strongRecOn generalizing k with
  | ind m ih =>
    rw [digitEnd_eq]
    split
    · have := ih (s.size - (k + 1)) (by omega) (k + 1) rfl
      omega
    · omega
theorem digitEnd_le (s : ByteArray) (k : Nat) (h : k ≤ s.size) : digitEnd s k ≤ s.size := by
  induction hm : s.size - k using Nat.strongRecOn generalizing k with
  | ind m ih =>
    rw [digitEnd_eq]
    split
    · exact ih (s.size - (k + 1)) (by omega) (k + 1) (by omega) rfl
    · exact h
theorem digitEnd_all (s : ByteArray) (k j : Nat) (h : k ≤ j) (g : j < digitEnd s k) : digitB (byteAt s j) = true := by
  induction hm : s.size - k using Nat.strongRecOn generalizing k with
  | ind m ih =>
    rw [digitEnd_eq] at g
    split at g
    · rename_i h1
      by_cases e : j = k
      · subst e; exact h1.2
      · exact ih (s.size - (k + 1)) (by omega) (k + 1) (by omega) g rfl
    · omega
theorem byteAt_extract (s : ByteArray) (a b j : Nat) (hb : b ≤ s.size) (hj : a + j < b) : byteAt (s.extract a b) j = byteAt s (a + j) := by
  have h1 : j < (s.extract a b).size := by rw [ByteArray.size_extract]; omega
  rw [byteAt_lt h1, byteAt_lt (by omega)]
  congr 2
  rw [ByteArray.getElem_extract]
theorem digits_extract (s : ByteArray) (k : Nat) (h : k ≤ s.size) : Digits (s.extract k (digitEnd s k)) := by
  intro j hj
  rw [ByteArray.size_extract] at hj
  have := digitEnd_le s k h
  rw [byteAt_extract s k _ j this (by omega)]
  exact digitEnd_all s k (k + j) (by omega) (by omega)

/-- The signs, the longer ones first. -/
def signTexts : List ByteArray := [⟨#[42, 94]⟩, ⟨#[47, 94]⟩, ⟨#[126, 62]⟩, ⟨#[58, 58]⟩, ⟨#[60, 62]⟩, ⟨#[60, 61]⟩, ⟨#[62, 61]⟩, ⟨#[40]⟩, ⟨#[41]⟩, ⟨#[59]⟩, ⟨#[58]⟩, ⟨#[44]⟩, ⟨#[61]⟩, ⟨#[60]⟩, ⟨#[62]⟩, ⟨#[43]⟩, ⟨#[45]⟩, ⟨#[42]⟩, ⟨#[47]⟩, ⟨#[37]⟩]
/-- Does this text stand there? -/
def standsB (s : ByteArray) (k : Nat) (t : ByteArray) : Bool := decide (t.size ≤ s.size - k ∧ (s.extract k (k + t.size)).toList = t.toList)
/-- The first one of a list that stands there. -/
def signAt (s : ByteArray) (k : Nat) (l : List ByteArray) : Option ByteArray := l.find? (standsB s k)

theorem signAt_hit (s : ByteArray) (k : Nat) (l : List ByteArray) (j : Nat) (hj : j < l.length) (h : ∀ i, (hi : i < l.length) → i < j → standsB s k l[i] = false) (g : standsB s k l[j] = true) : signAt s k l = some l[j] := by
  unfold signAt
  rw [List.find?_eq_some_iff_getElem]
  refine ⟨g, j, hj, rfl, fun i hi => ?_⟩
  rw [h i (by omega) hi]
  rfl
theorem signAt_none (s : ByteArray) (k : Nat) (l : List ByteArray) (h : ∀ i, (hi : i < l.length) → standsB s k l[i] = false) : signAt s k l = none := by
  unfold signAt
  rw [List.find?_eq_none]
  intro x hx
  obtain ⟨i, hi, rfl⟩ := List.getElem_of_mem hx
  rw [h i hi]
  simp
/-- A token. -/
structure Tok where
  kind : Int
  text : ByteArray
  int : Int
  place : Nat
/-- The token of a sign. -/
def signTok (o : Option ByteArray) (k : Nat) : Tok × Int := match o with
  | some t => (⟨4, t, 0, k⟩, 0)
  | none => (⟨0, ⟨#[]⟩, 0, 0⟩, 30)
/-- The token at a place, and its error. -/
def tokenOf (s : ByteArray) (k : Nat) : Tok × Int :=
  if letterB (byteAt s k) = true then
    if wordEnd s k - k ≤ 32 then (⟨if wordB (s.extract k (wordEnd s k)) = true then 3 else 1, s.extract k (wordEnd s k), 0, k⟩, 0)
    else (⟨0, ⟨#[]⟩, 0, 0⟩, 32)
  else if digitB (byteAt s k) = true then
    if numOk (s.extract k (digitEnd s k)) = true then (⟨2, s.extract k (digitEnd s k), numVal (s.extract k (digitEnd s k)), k⟩, 0)
    else (⟨0, ⟨#[]⟩, 0, 0⟩, 31)
  else signTok (signAt s k signTexts) k
end Go.Proofs.YthbgnpkgglbhjaaGreatDoor
/- All tokens of a text of bytes, as plain functions. No program in sight. -/
namespace Go.Proofs.YthbgnpkgglbhjaaGreatDoor

theorem signTexts_size (t : ByteArray) (h : t ∈ signTexts) : 1 ≤ t.size ∧ t.size ≤ 2 := by
  revert t
  decide
theorem stands_size {s : ByteArray} {k : Nat} {t : ByteArray} (h : standsB s k t = true) : t.size ≤ s.size - k := by
  simp only [standsB, decide_eq_true_eq] at h
  exact h.1
/-- A token that is one has a byte, and lies within the text. -/
theorem tok_size {s : ByteArray} {k : Nat} (hk : k < s.size) (he : (tokenOf s k).2 = 0) : 0 < (tokenOf s k).1.text.size ∧ k + (tokenOf s k).1.text.size ≤ s.size ∧ (tokenOf s k).1.place = k := by
  unfold tokenOf at *
  by_cases h1 : letterB (byteAt s k) = true
  · rw [if_pos h1] at he ⊢
    by_cases h2 : wordEnd s k - k ≤ 32
    · rw [if_pos h2]
      have h3 := wordEnd_le s k (by omega)
      have h4 : k < wordEnd s k := by
        rw [← wordEnd_step hk (Or.inl h1)]
        have := wordEnd_ge s (k + 1)
        omega
      refine ⟨?_, ?_, rfl⟩ <;> simp only [ByteArray.size_extract] <;> omega
    · rw [if_neg h2] at he
      simp at he
  · rw [if_neg h1] at he ⊢
    by_cases h2 : digitB (byteAt s k) = true
    · rw [if_pos h2] at he ⊢
      by_cases h3 : numOk (s.extract k (digitEnd s k)) = true
      · rw [if_pos h3]
        have h3 := digitEnd_le s k (by omega)
        have h4 : k < digitEnd s k := by
          rw [← digitEnd_step hk h2]
          have := digitEnd_ge s (k + 1)
          omega
        refine ⟨?_, ?_, rfl⟩ <;> simp only [ByteArray.size_extract] <;> omega
      · rw [if_neg h3] at he
        simp at he
    · rw [if_neg h2] at he ⊢
      rcases h3 : signAt s k signTexts with _ | t
      · rw [h3] at he
        simp [signTok] at he
      · simp only [signTok]
        have h4 := List.mem_of_find?_eq_some h3
        have h5 := List.find?_some h3
        have h6 := signTexts_size t h4
        have h7 := stands_size h5
        refine ⟨?_, ?_, trivial⟩ <;> omega
/-- The tokens from a place on, behind those that there are; else the place and the error: by at most n steps. -/
def scanN (s : ByteArray) : Nat → Nat → List Tok → List Tok × Nat × Int
  | 0, _, acc => (acc ++ [⟨0, ⟨#[]⟩, 0, s.size⟩], 0, 0)
  | n + 1, k, acc =>
    if k < s.size then
      if (tokenOf s k).2 = 0 then
        if acc.length + 1 < 16384 then scanN s n (afterTo s (k + (tokenOf s k).1.text.size)) (acc ++ [(tokenOf s k).1]) else ([], k, 6)
      else ([], k, (tokenOf s k).2)
    else (acc ++ [⟨0, ⟨#[]⟩, 0, s.size⟩], 0, 0)
theorem tok_on {s : ByteArray} {k : Nat} (hk : k < s.size) (he : (tokenOf s k).2 = 0) : k < afterTo s (k + (tokenOf s k).1.text.size) := by
  have h1 := (tok_size hk he).1
  have h2 := afterTo_ge s (k + (tokenOf s k).1.text.size)
  omega
theorem scanN_far (s : ByteArray) (n : Nat) : ∀ m k acc, s.size - k ≤ n → s.size - k ≤ m → scanN s n k acc = scanN s m k acc := by
  induction n with
  | zero =>
    intro m k acc h1 h2
    cases m with
    | zero => rfl
    | succ m => rw [scanN, scanN, if_neg (by omega)]
  | succ n ih =>
    intro m k acc h1 h2
    by_cases h : k < s.size
    · obtain ⟨q, rfl⟩ : ∃ q, m = q + 1 := ⟨m - 1, by omega⟩
      rw [scanN, scanN, if_pos h, if_pos h]
      by_cases h3 : (tokenOf s k).2 = 0
      · rw [if_pos h3, if_pos h3]
        have := tok_on h h3
        by_cases h4 : acc.length + 1 < 16384
        · rw [if_pos h4, if_pos h4]
          exact ih q _ _ (by omega) (by omega)
        · rw [if_neg h4, if_neg h4]
      · rw [if_neg h3, if_neg h3]
    · cases m with
      | zero => rw [scanN, scanN, if_neg h]
      | succ m => rw [scanN, scanN, if_neg h, if_neg h]
/-- The tokens from a place on, behind those that there are; else the place and the error. -/
def scanFrom (s : ByteArray) (k : Nat) (acc : List Tok) : List Tok × Nat × Int := scanN s (s.size - k) k acc
theorem scan_eq (s : ByteArray) (k : Nat) (acc : List Tok) : scanFrom s k acc = if k < s.size then
      if (tokenOf s k).2 = 0 then
        if acc.length + 1 < 16384 then scanFrom s (afterTo s (k + (tokenOf s k).1.text.size)) (acc ++ [(tokenOf s k).1]) else ([], k, 6)
      else ([], k, (tokenOf s k).2)
    else (acc ++ [⟨0, ⟨#[]⟩, 0, s.size⟩], 0, 0) := by
  unfold scanFrom
  by_cases h : k < s.size
  · rw [if_pos h, show s.size - k = (s.size - (k + 1)) + 1 by omega, scanN, if_pos h]
    by_cases h3 : (tokenOf s k).2 = 0
    · rw [if_pos h3, if_pos h3]
      have := tok_on h h3
      by_cases h4 : acc.length + 1 < 16384
      · rw [if_pos h4, if_pos h4]
        exact scanN_far s _ _ _ _ (by omega) (by omega)
      · rw [if_neg h4, if_neg h4]
    · rw [if_neg h3, if_neg h3]
  · rw [if_neg h, show s.size - k = 0 by omega, scanN]
theorem scan_step {s : ByteArray} {k : Nat} {acc : List Tok} (h : k < s.size) (g : (tokenOf s k).2 = 0) (l : acc.length + 1 < 16384) : scanFrom s (afterTo s (k + (tokenOf s k).1.text.size)) (acc ++ [(tokenOf s k).1]) = scanFrom s k acc := by
  conv => rhs; rw [scan_eq, if_pos h, if_pos g, if_pos l]
theorem scan_full {s : ByteArray} {k : Nat} {acc : List Tok} (h : k < s.size) (g : (tokenOf s k).2 = 0) (l : ¬ acc.length + 1 < 16384) : scanFrom s k acc = ([], k, 6) := by
  rw [scan_eq, if_pos h, if_pos g, if_neg l]
theorem scan_wrong {s : ByteArray} {k : Nat} {acc : List Tok} (h : k < s.size) (g : ¬ (tokenOf s k).2 = 0) : scanFrom s k acc = ([], k, (tokenOf s k).2) := by
  rw [scan_eq, if_pos h, if_neg g]
theorem scan_end {s : ByteArray} {k : Nat} {acc : List Tok} (h : ¬ k < s.size) : scanFrom s k acc = (acc ++ [⟨0, ⟨#[]⟩, 0, s.size⟩], 0, 0) := by
  rw [scan_eq, if_neg h]
/-- All tokens; else the place and the error. -/
def lexOf (s : ByteArray) : List Tok × Nat × Int := if 65536 < s.size then ([], 65536, 4) else scanFrom s (afterTo s 0) []
theorem scan_err (s : ByteArray) (k : Nat) (acc : List Tok) (h : (scanFrom s k acc).2.2 ≠ 0) : (scanFrom s k acc).1 = [] := by
  induction hm : s.size - k using Nat.strongRecOn generalizing k acc with
  | ind m ih =>
    rw [scan_eq] at h ⊢
    by_cases h1 : k < s.size
    · rw [if_pos h1] at h ⊢
      by_cases h2 : (tokenOf s k).2 = 0
      · rw [if_pos h2] at h ⊢
        by_cases h3 : acc.length + 1 < 16384
        · rw [if_pos h3] at h ⊢
          have := tok_on h1 h2
          exact ih _ (by omega) _ _ h rfl
        · rw [if_neg h3]
      · rw [if_neg h2]
    · rw [if_neg h1] at h
      simp at h
theorem scan_len (s : ByteArray) (k : Nat) (acc : List Tok) (h : acc.length + 1 ≤ 16384) : (scanFrom s k acc).1.length ≤ 16384 := by
  induction hm : s.size - k using Nat.strongRecOn generalizing k acc with
  | ind m ih =>
    rw [scan_eq]
    by_cases h1 : k < s.size
    · rw [if_pos h1]
      by_cases h2 : (tokenOf s k).2 = 0
      · rw [if_pos h2]
        by_cases h3 : acc.length + 1 < 16384
        · rw [if_pos h3]
          have := tok_on h1 h2
          exact ih _ (by omega) _ _ (by simp; omega) rfl
        · rw [if_neg h3]
          simp
      · rw [if_neg h2]
        simp
    · rw [if_neg h1]
      simp
      omega
theorem lex_len (s : ByteArray) : (lexOf s).1.length ≤ 16384 := by
  unfold lexOf
  split
  · simp
  · exact scan_len s _ _ (by simp)
theorem lex_err {s : ByteArray} (h : (lexOf s).2.2 ≠ 0) : (lexOf s).1 = [] := by
  unfold lexOf at *
  split
  · rfl
  · rename_i h1
    rw [if_neg h1] at h
    exact scan_err s _ _ h
end Go.Proofs.YthbgnpkgglbhjaaGreatDoor
/- Two sources and what they have, as plain facts. No program in sight. -/
namespace Go.Proofs.YthbgnpkgglbhjaaGreatDoor
def src1 : ByteArray := ⟨#[120, 32, 61, 32, 121, 32, 42, 94, 32, 51, 59, 32, 45, 45, 32, 116, 104, 114, 101, 101]⟩
def src2 : ByteArray := ⟨#[120, 32, 61, 32, 121, 32, 38, 32, 122]⟩
theorem after_skip {s : ByteArray} {k j : Nat} (h : afterTo s (k + 1) = j) (h1 : k < s.size) (h2 : blankB (byteAt s k) = true) : afterTo s k = j := by rw [← afterTo_blank h1 h2]; exact h
theorem line_skip {s : ByteArray} {k j : Nat} (h : lineEnd s (k + 1) = j) (h1 : k < s.size) (h2 : byteAt s k ≠ 10) : lineEnd s k = j := by rw [← lineEnd_step h1 h2]; exact h
theorem name_tok {s : ByteArray} {k : Nat} {t : ByteArray} (h : k < s.size) (hl : letterB (byteAt s k) = true) (e : wordEnd s (k + 1) = k + 1) (ht : s.extract k (k + 1) = t) (hw : wordB t = false) : tokenOf s k = (⟨1, t, 0, k⟩, 0) := by
  have e2 : wordEnd s k = k + 1 := by rw [← wordEnd_step h (Or.inl hl)]; exact e
  rw [tokenOf, if_pos hl, e2, if_pos (by omega), ht, hw]
  rfl
theorem num_tok {s : ByteArray} {k : Nat} {t : ByteArray} {n : Nat} (h : k < s.size) (hl : letterB (byteAt s k) = false) (hd : digitB (byteAt s k) = true) (e : digitEnd s (k + 1) = k + 1) (ht : s.extract k (k + 1) = t) (ho : numOk t = true) (hn : numVal t = n) : tokenOf s k = (⟨2, t, n, k⟩, 0) := by
  have e2 : digitEnd s k = k + 1 := by rw [← digitEnd_step h hd]; exact e
  rw [tokenOf, if_neg (by simp [hl]), if_pos hd, e2, ht, if_pos ho, hn]
/-- The same, by the bytes as they lie. -/
def standsD (s : ByteArray) (k : Nat) (t : ByteArray) : Bool := decide (t.size ≤ s.size - k ∧ (s.extract k (k + t.size)).data.toList = t.data.toList)
theorem signAt_data (s : ByteArray) (k : Nat) (l : List ByteArray) : signAt s k l = l.find? (standsD s k) := by
  have h : standsB s k = standsD s k := by
    funext t
    unfold standsB standsD
    rw [ByteArray.toList_eq, ByteArray.toList_eq]
  unfold signAt
  rw [h]
theorem sign_tok {s : ByteArray} {k : Nat} {o : Option ByteArray} (hl : letterB (byteAt s k) = false) (hd : digitB (byteAt s k) = false) (e : signTexts.find? (standsD s k) = o) : tokenOf s k = signTok o k := by
  rw [tokenOf, if_neg (by simp [hl]), if_neg (by simp [hd]), signAt_data, e]
theorem scan_on {s : ByteArray} {k j : Nat} {acc : List Tok} {t : Tok} {r : List Tok × Nat × Int} (ht : tokenOf s k = (t, 0)) (h : k < s.size) (l : acc.length + 1 < 16384) (a : afterTo s (k + t.text.size) = j) (g : scanFrom s j (acc ++ [t]) = r) : scanFrom s k acc = r := by
  have := scan_step (acc := acc) h (by rw [ht]) l
  rw [ht] at this
  rw [← this]
  simp only
  rw [a]
  exact g
theorem lex1 : lexOf src1 = ([⟨1, ⟨#[120]⟩, 0, 0⟩, ⟨4, ⟨#[61]⟩, 0, 2⟩, ⟨1, ⟨#[121]⟩, 0, 4⟩, ⟨4, ⟨#[42, 94]⟩, 0, 6⟩, ⟨2, ⟨#[51]⟩, 3, 9⟩, ⟨4, ⟨#[59]⟩, 0, 10⟩, ⟨0, ⟨#[]⟩, 0, 20⟩], 0, 0) := by
  have a0 : afterTo src1 0 = 0 := afterTo_here (by decide) (by decide) (by decide)
  have a1 : afterTo src1 1 = 2 := after_skip (afterTo_here (by decide) (by decide) (by decide)) (by decide) (by decide)
  have a3 : afterTo src1 3 = 4 := after_skip (afterTo_here (by decide) (by decide) (by decide)) (by decide) (by decide)
  have a5 : afterTo src1 5 = 6 := after_skip (afterTo_here (by decide) (by decide) (by decide)) (by decide) (by decide)
  have a8 : afterTo src1 8 = 9 := after_skip (afterTo_here (by decide) (by decide) (by decide)) (by decide) (by decide)
  have a10 : afterTo src1 10 = 10 := afterTo_here (by decide) (by decide) (by decide)
  have l12 : lineEnd src1 12 = 20 := line_skip (line_skip (line_skip (line_skip (line_skip (line_skip (line_skip (line_skip (lineEnd_here (by decide)) (by decide) (by decide)) (by decide) (by decide)) (by decide) (by decide)) (by decide) (by decide)) (by decide) (by decide)) (by decide) (by decide)) (by decide) (by decide)) (by decide) (by decide)
  have a11 : afterTo src1 11 = 20 := after_skip (by rw [← afterTo_remark (s := src1) (k := 12) (by decide) (by decide) (by decide), l12]; exact afterTo_end (by decide)) (by decide) (by decide)
  rw [lexOf, if_neg (by decide), a0]
  refine scan_on (name_tok (by decide) (by decide) (wordEnd_here (by decide)) (t := ⟨#[120]⟩) (by rfl) (by decide)) (by decide) (by decide) a1 ?_
  refine scan_on (sign_tok (by decide) (by decide) (o := some ⟨#[61]⟩) (by rfl)) (by decide) (by decide) a3 ?_
  refine scan_on (name_tok (by decide) (by decide) (wordEnd_here (by decide)) (t := ⟨#[121]⟩) (by rfl) (by decide)) (by decide) (by decide) a5 ?_
  refine scan_on (sign_tok (by decide) (by decide) (o := some ⟨#[42, 94]⟩) (by rfl)) (by decide) (by decide) a8 ?_
  refine scan_on (num_tok (by decide) (by decide) (by decide) (digitEnd_here (by decide)) (t := ⟨#[51]⟩) (n := 3) (by rfl) (by decide) (by decide)) (by decide) (by decide) a10 ?_
  refine scan_on (sign_tok (by decide) (by decide) (o := some ⟨#[59]⟩) (by rfl)) (by decide) (by decide) a11 ?_
  exact scan_end (by decide)
theorem lex2 : lexOf src2 = ([], 6, 30) := by
  have a0 : afterTo src2 0 = 0 := afterTo_here (by decide) (by decide) (by decide)
  have a1 : afterTo src2 1 = 2 := after_skip (afterTo_here (by decide) (by decide) (by decide)) (by decide) (by decide)
  have a3 : afterTo src2 3 = 4 := after_skip (afterTo_here (by decide) (by decide) (by decide)) (by decide) (by decide)
  have a5 : afterTo src2 5 = 6 := after_skip (afterTo_here (by decide) (by decide) (by decide)) (by decide) (by decide)
  rw [lexOf, if_neg (by decide), a0]
  refine scan_on (name_tok (by decide) (by decide) (wordEnd_here (by decide)) (t := ⟨#[120]⟩) (by rfl) (by decide)) (by decide) (by decide) a1 ?_
  refine scan_on (sign_tok (by decide) (by decide) (o := some ⟨#[61]⟩) (by rfl)) (by decide) (by decide) a3 ?_
  refine scan_on (name_tok (by decide) (by decide) (wordEnd_here (by decide)) (t := ⟨#[121]⟩) (by rfl) (by decide)) (by decide) (by decide) a5 ?_
  have h : tokenOf src2 6 = signTok none 6 := sign_tok (by decide) (by decide) (by rfl)
  rw [scan_wrong (by decide) (by rw [h]; decide), h]
  rfl
end Go.Proofs.YthbgnpkgglbhjaaGreatDoor
/- Texts of one byte, again and again, and what they have, as plain facts. No program in sight. -/
namespace Go.Proofs.YthbgnpkgglbhjaaGreatDoor
/-- n times the byte c. -/
def rep (n : Nat) (c : UInt8) : ByteArray := ⟨(List.replicate n c).toArray⟩
theorem rep_size (n : Nat) (c : UInt8) : (rep n c).size = n := by
  show (List.replicate n c).toArray.size = n
  simp
theorem rep_at {n : Nat} {c : UInt8} {k : Nat} (h : k < n) : byteAt (rep n c) k = (c.toNat : Int) := by
  rw [byteAt_lt (by rw [rep_size]; exact h)]
  have : (rep n c)[k]'(by rw [rep_size]; exact h) = c := by
    show (List.replicate n c).toArray[k]'_ = c
    simp
  rw [this]
/-- What stands there begins as it does. -/
theorem stands_first {s : ByteArray} {k : Nat} {t : ByteArray} (h : standsB s k t = true) (h0 : 0 < t.size) : byteAt s k = byteAt t 0 := by
  simp only [standsB, decide_eq_true_eq] at h
  obtain ⟨h1, h2⟩ := h
  rw [ByteArray.toList_eq, ByteArray.toList_eq] at h2
  have h3 : (s.extract k (k + t.size)).data = t.data := Array.toList_inj.1 h2
  have h4 : s.extract k (k + t.size) = t := by
    cases t
    cases hx : s.extract k _ with
    | mk d => rw [hx] at h3; exact congrArg ByteArray.mk h3
  have h5 := byteAt_extract s k (k + t.size) 0 (by omega) (by omega)
  rw [h4] at h5
  simpa using h5.symm
theorem signs_first : ∀ i : Fin 9, byteAt (signTexts[i.val]'(Nat.lt_of_lt_of_le i.isLt (by decide))) 0 ≠ 59 := by decide
theorem semi_tok {n k : Nat} (h : k < n) : tokenOf (rep n 59) k = (⟨4, ⟨#[59]⟩, 0, k⟩, 0) := by
  have hb : byteAt (rep n 59) k = 59 := rep_at h
  have hno : ∀ t : ByteArray, 0 < t.size → byteAt t 0 ≠ 59 → standsB (rep n 59) k t = false := fun t h0 hne => by
    rw [Bool.eq_false_iff]
    intro hs
    have := stands_first hs h0
    omega
  have hyes : standsB (rep n 59) k ⟨#[59]⟩ = true := by
    simp only [standsB, decide_eq_true_eq]
    have e1 : (⟨#[59]⟩ : ByteArray).size = 1 := rfl
    rw [e1, rep_size]
    refine ⟨by omega, ?_⟩
    rw [ByteArray.toList_eq, ByteArray.toList_eq]
    have hsz : ((rep n 59).extract k (k + 1)).size = 1 := by rw [ByteArray.size_extract, rep_size]; omega
    apply List.ext_getElem
    · show ((rep n 59).extract k (k + 1)).data.toList.length = 1
      rw [Array.length_toList]
      exact hsz
    · intro i hi hi2
      have hi0 : i = 0 := by simp at hi2; omega
      subst hi0
      have h5 : byteAt ((rep n 59).extract k (k + 1)) 0 = 59 := by
        rw [byteAt_extract (rep n 59) k (k + 1) 0 (by rw [rep_size]; omega) (by omega)]
        exact hb
      rw [byteAt_lt (by omega)] at h5
      have h6 : ((rep n 59).extract k (k + 1))[0].toNat = 59 := by omega
      have h7 : ((rep n 59).extract k (k + 1))[0] = 59 := UInt8.toNat_inj.1 h6
      exact h7
  have hs : signAt (rep n 59) k signTexts = some ⟨#[59]⟩ := by
    have := signAt_hit (rep n 59) k signTexts 9 (by decide) (fun i hi hi9 => by
      apply hno
      · have := signTexts_size (signTexts[i]) (List.getElem_mem _)
        omega
      · have : i = 0 ∨ i = 1 ∨ i = 2 ∨ i = 3 ∨ i = 4 ∨ i = 5 ∨ i = 6 ∨ i = 7 ∨ i = 8 := by omega
        rcases this with rfl | rfl | rfl | rfl | rfl | rfl | rfl | rfl | rfl
        · exact signs_first 0
        · exact signs_first 1
        · exact signs_first 2
        · exact signs_first 3
        · exact signs_first 4
        · exact signs_first 5
        · exact signs_first 6
        · exact signs_first 7
        · exact signs_first 8) hyes
    exact this
  rw [tokenOf, if_neg (by rw [hb]; decide), if_neg (by rw [hb]; decide), hs]
  rfl
theorem semi_after {n k : Nat} (_h : k ≤ n) : afterTo (rep n 59) k = k := by
  by_cases hk : k < n
  · have hb : byteAt (rep n 59) k = 59 := rep_at hk
    refine afterTo_here (by rw [rep_size]; exact hk) (by rw [hb]; decide) ?_
    simp only [hyphensB, decide_eq_false_iff_not]
    omega
  · exact afterTo_end (by rw [rep_size]; exact hk)
theorem semi_few {n : Nat} (hn : n ≤ 16383) (k : Nat) (acc : List Tok) (hk : k ≤ n) (ha : acc.length = k) : ∃ l, scanFrom (rep n 59) k acc = (l ++ [⟨0, ⟨#[]⟩, 0, n⟩], 0, 0) ∧ l.length = n := by
  induction hm : n - k using Nat.strongRecOn generalizing k acc with
  | ind m ih =>
    by_cases h : k < n
    · obtain ⟨l, h1, h2⟩ := ih (n - (k + 1)) (by omega) (k + 1) (acc ++ [⟨4, ⟨#[59]⟩, 0, k⟩]) (by omega) (by simp; omega) rfl
      refine ⟨l, ?_, h2⟩
      exact scan_on (semi_tok h) (by rw [rep_size]; exact h) (by omega) (semi_after (by show k + 1 ≤ n; omega)) h1
    · refine ⟨acc, ?_, by omega⟩
      have := scan_end (s := rep n 59) (k := k) (acc := acc) (by rw [rep_size]; exact h)
      rw [rep_size] at this
      exact this
theorem semi_many {n : Nat} (hn : 16383 < n) (k : Nat) (acc : List Tok) (hk : k ≤ 16383) (ha : acc.length = k) : scanFrom (rep n 59) k acc = ([], 16383, 6) := by
  induction hm : 16383 - k using Nat.strongRecOn generalizing k acc with
  | ind m ih =>
    by_cases h : k < 16383
    · have h1 := ih (16383 - (k + 1)) (by omega) (k + 1) (acc ++ [⟨4, ⟨#[59]⟩, 0, k⟩]) (by omega) (by simp; omega) rfl
      exact scan_on (semi_tok (by omega)) (by rw [rep_size]; omega) (by omega) (semi_after (by show k + 1 ≤ n; omega)) h1
    · obtain rfl : k = 16383 := by omega
      exact scan_full (by rw [rep_size]; omega) (by rw [semi_tok (by omega)]) (by omega)
theorem lex_semi_few {n : Nat} (hn : n ≤ 16383) : ∃ l, lexOf (rep n 59) = (l ++ [⟨0, ⟨#[]⟩, 0, n⟩], 0, 0) ∧ l.length = n := by
  rw [lexOf, if_neg (by rw [rep_size]; omega), semi_after (by omega)]
  exact semi_few hn 0 [] (by omega) rfl
theorem lex_semi_many {n : Nat} (hn : 16383 < n) (hm : n ≤ 65536) : lexOf (rep n 59) = ([], 16383, 6) := by
  rw [lexOf, if_neg (by rw [rep_size]; omega), semi_after (by omega)]
  exact semi_many hn 0 [] (by omega) rfl
theorem blank_after {n : Nat} (k : Nat) (h : k ≤ n) : afterTo (rep n 32) k = n := by
  induction hm : n - k using Nat.strongRecOn generalizing k with
  | ind m ih =>
    by_cases hk : k < n
    · exact after_skip (ih (n - (k + 1)) (by omega) (k + 1) (by omega) rfl) (by rw [rep_size]; exact hk) (by rw [rep_at hk]; decide)
    · rw [afterTo_end (by rw [rep_size]; exact hk)]
      omega
theorem lex_blank_few {n : Nat} (hn : n ≤ 65536) : lexOf (rep n 32) = ([⟨0, ⟨#[]⟩, 0, n⟩], 0, 0) := by
  rw [lexOf, if_neg (by rw [rep_size]; omega), blank_after 0 (by omega), scan_end (by rw [rep_size]; omega), rep_size]
  rfl
theorem lex_long {s : ByteArray} (h : 65536 < s.size) : lexOf s = ([], 65536, 4) := by rw [lexOf, if_pos h]
end Go.Proofs.YthbgnpkgglbhjaaGreatDoor
/- A token stays what it is wherever it stands, if a blank stands behind it, as plain facts. No program in sight. -/
namespace Go.Proofs.YthbgnpkgglbhjaaGreatDoor

theorem size_list (s : ByteArray) : s.data.toList.length = s.size := by
  rw [Array.length_toList]
  rfl
theorem byteAt_mid {s : ByteArray} {pre mid rest : List UInt8} (h : s.data.toList = pre ++ (mid ++ rest)) {i : Nat} (hi : i < mid.length) : byteAt s (pre.length + i) = (mid[i].toNat : Int) := by
  have hsz : s.size = pre.length + (mid.length + rest.length) := by rw [← size_list, h]; simp
  rw [byteAt_lt (by omega)]
  have e : s[pre.length + i]'(by omega) = s.data.toList[pre.length + i]'(by rw [size_list]; omega) := rfl
  rw [e]
  have : s.data.toList[pre.length + i]'(by rw [size_list]; omega) = mid[i] := by
    simp only [h]
    rw [List.getElem_append_right (by omega), List.getElem_append_left (by omega)]
    congr 1
    omega
  rw [this]
theorem ba_ext {a b : ByteArray} (h : a.data.toList = b.data.toList) : a = b := by
  cases a
  cases b
  exact congrArg ByteArray.mk (Array.toList_inj.1 h)
theorem extract_mid {s : ByteArray} {pre rest : List UInt8} {t : ByteArray} (h : s.data.toList = pre ++ (t.data.toList ++ rest)) : s.extract pre.length (pre.length + t.size) = t := by
  apply ba_ext
  have hsz : s.size = pre.length + (t.size + rest.length) := by rw [← size_list, h]; simp
  apply List.ext_getElem
  · rw [size_list, size_list, ByteArray.size_extract]
    omega
  · intro i h1 h2
    rw [size_list] at h2
    have h3 : i < (s.extract pre.length (pre.length + t.size)).size := by rw [← size_list]; exact h1
    have e1 := byteAt_extract s pre.length (pre.length + t.size) i (by omega) (by omega)
    rw [byteAt_mid h (i := i) (by rw [size_list]; exact h2), byteAt_lt h3] at e1
    have e2 : ((s.extract pre.length (pre.length + t.size))[i]'h3).toNat = (t.data.toList[i]'(by rw [size_list]; exact h2)).toNat := by omega
    exact UInt8.toNat_inj.1 e2
theorem wordEnd_all (s : ByteArray) (k j : Nat) (h : k ≤ j) (g : j < wordEnd s k) : letterB (byteAt s j) = true ∨ digitB (byteAt s j) = true := by
  induction hm : s.size - k using Nat.strongRecOn generalizing k with
  | ind m ih =>
    rw [wordEnd_eq] at g
    split at g
    · rename_i h1
      by_cases e : j = k
      · subst e; exact h1.2
      · exact ih (s.size - (k + 1)) (by omega) (k + 1) (by omega) g rfl
    · omega
theorem wordEnd_run (s : ByteArray) (n k : Nat) (hs : k + n ≤ s.size) (h : ∀ j, j < n → letterB (byteAt s (k + j)) = true ∨ digitB (byteAt s (k + j)) = true) (g : letterB (byteAt s (k + n)) = false ∧ digitB (byteAt s (k + n)) = false) : wordEnd s k = k + n := by
  induction n generalizing k with
  | zero => exact wordEnd_here (Or.inr g)
  | succ n ih =>
    have h0 : letterB (byteAt s k) = true ∨ digitB (byteAt s k) = true := h 0 (by omega)
    rw [← wordEnd_step (by omega) h0, ih (k + 1) (by omega) (fun j hj => by have := h (j + 1) (by omega); rwa [show k + (j + 1) = k + 1 + j by omega] at this) (by rwa [show k + (n + 1) = k + 1 + n by omega] at g)]
    omega
theorem digitEnd_run (s : ByteArray) (n k : Nat) (hs : k + n ≤ s.size) (h : ∀ j, j < n → digitB (byteAt s (k + j)) = true) (g : digitB (byteAt s (k + n)) = false) : digitEnd s k = k + n := by
  induction n generalizing k with
  | zero => exact digitEnd_here (Or.inr g)
  | succ n ih =>
    have h0 : digitB (byteAt s k) = true := h 0 (by omega)
    rw [← digitEnd_step (by omega) h0, ih (k + 1) (by omega) (fun j hj => by have := h (j + 1) (by omega); rwa [show k + (j + 1) = k + 1 + j by omega] at this) (by rwa [show k + (n + 1) = k + 1 + n by omega] at g)]
    omega
theorem stands_text {s : ByteArray} {k : Nat} {t : ByteArray} (h : standsB s k t = true) : s.extract k (k + t.size) = t := by
  simp only [standsB, decide_eq_true_eq] at h
  apply ba_ext
  rw [← ByteArray.toList_eq, ← ByteArray.toList_eq]
  exact h.2
/-- A token's text stands where it says. -/
theorem tok_text {s : ByteArray} {k : Nat} (hk : k < s.size) (he : (tokenOf s k).2 = 0) : s.extract k (k + (tokenOf s k).1.text.size) = (tokenOf s k).1.text := by
  unfold tokenOf at *
  by_cases h1 : letterB (byteAt s k) = true
  · rw [if_pos h1] at he ⊢
    by_cases h2 : wordEnd s k - k ≤ 32
    · rw [if_pos h2]
      have h3 := wordEnd_le s k (by omega)
      have h4 := wordEnd_ge s k
      simp only [ByteArray.size_extract]
      rw [show k + (min (wordEnd s k) s.size - k) = wordEnd s k by omega]
    · rw [if_neg h2] at he
      simp at he
  · rw [if_neg h1] at he ⊢
    by_cases h2 : digitB (byteAt s k) = true
    · rw [if_pos h2] at he ⊢
      by_cases h3 : numOk (s.extract k (digitEnd s k)) = true
      · rw [if_pos h3]
        have h5 := digitEnd_le s k (by omega)
        have h4 := digitEnd_ge s k
        simp only [ByteArray.size_extract]
        rw [show k + (min (digitEnd s k) s.size - k) = digitEnd s k by omega]
      · rw [if_neg h3] at he
        simp at he
    · rw [if_neg h2] at he ⊢
      rcases h3 : signAt s k signTexts with _ | t
      · rw [h3] at he
        simp [signTok] at he
      · simp only [signTok]
        exact stands_text (List.find?_some h3)
theorem blank_not {c : Int} (h : blankB c = true) : letterB c = false ∧ digitB c = false := by
  simp only [blankB, decide_eq_true_eq] at h
  simp only [letterB, digitB, decide_eq_false_iff_not]
  omega
theorem stands_at {s : ByteArray} {k : Nat} {t : ByteArray} (h : standsB s k t = true) {j : Nat} (hj : j < t.size) : byteAt s (k + j) = byteAt t j := by
  have h1 := stands_text h
  have h2 := stands_size h
  have h3 := byteAt_extract s k (k + t.size) j (by omega) (by omega)
  rw [h1] at h3
  exact h3.symm
theorem stands_of {s : ByteArray} {k : Nat} {t : ByteArray} (h : s.extract k (k + t.size) = t) (hs : k + t.size ≤ s.size) : standsB s k t = true := by
  simp only [standsB, decide_eq_true_eq]
  exact ⟨by omega, by rw [h]⟩
theorem signs_second : ∀ i : Fin 20, (signTexts[i.val]'i.isLt).size = 1 ∨ blankB (byteAt (signTexts[i.val]'i.isLt) 1) = false := by decide
/-- A sign that stands in one text stands in the other one just so, where a blank is behind it. -/
theorem sign_moves {s S : ByteArray} {k q : Nat} {t : ByteArray} (hk : k + t.size ≤ s.size) (hq : q + t.size < S.size) (h : signAt s k signTexts = some t) (ht : S.extract q (q + t.size) = t) (hb : blankB (byteAt S (q + t.size)) = true) : signAt S q signTexts = some t := by
  unfold signAt at h
  rw [List.find?_eq_some_iff_getElem] at h
  obtain ⟨h1, j, hj, hjt, h2⟩ := h
  have hm := signTexts_size t (by rw [← hjt]; exact List.getElem_mem _)
  have e := signAt_hit S q signTexts j hj (fun i hi hij => by
    have h3 := h2 i hij
    have h4 := signTexts_size (signTexts[i]) (List.getElem_mem _)
    rw [Bool.eq_false_iff]
    intro hst
    have hsz := stands_size hst
    by_cases hle : (signTexts[i]).size ≤ t.size
    · have hs : standsB s k (signTexts[i]) = true := by
        apply stands_of _ (by omega)
        apply ba_ext
        apply List.ext_getElem
        · rw [size_list, size_list, ByteArray.size_extract]; omega
        · intro x hx hy
          rw [size_list] at hx hy
          have e1 := byteAt_extract s k (k + (signTexts[i]).size) x (by omega) (by omega)
          have e2 := stands_at h1 (j := x) (by omega)
          have e3 := byteAt_extract S q (q + t.size) x (by omega) (by omega)
          rw [ht] at e3
          have e4 := stands_at hst (j := x) hy
          have e5 : byteAt (s.extract k (k + (signTexts[i]).size)) x = byteAt (signTexts[i]) x := by rw [e1, e2, e3, e4]
          rw [byteAt_lt hx, byteAt_lt hy] at e5
          have e6 : ((s.extract k (k + (signTexts[i]).size))[x]'hx).toNat = ((signTexts[i])[x]'hy).toNat := by omega
          exact UInt8.toNat_inj.1 e6
      rw [hs] at h3
      simp at h3
    · have e4 := stands_at hst (j := 1) (by omega)
      have h5 := signs_second ⟨i, hi⟩
      have e7 : t.size = 1 := by omega
      rw [e7] at hb
      rcases h5 with h5 | h5
      · simp only at h5
        omega
      · have h6 : blankB (byteAt signTexts[i] 1) = false := h5
        rw [← e4, hb] at h6
        simp at h6) (by rw [hjt]; exact stands_of ht (by omega))
  rw [hjt] at e
  exact e
/-- A token is the same one wherever its text stands with a blank behind it. -/
theorem tok_moves {s S : ByteArray} {k q : Nat} (hk : k < s.size) (he : (tokenOf s k).2 = 0) (hq : q + (tokenOf s k).1.text.size < S.size) (ht : S.extract q (q + (tokenOf s k).1.text.size) = (tokenOf s k).1.text) (hb : blankB (byteAt S (q + (tokenOf s k).1.text.size)) = true) :
    tokenOf S q = (⟨(tokenOf s k).1.kind, (tokenOf s k).1.text, (tokenOf s k).1.int, q⟩, 0) := by
  have hsz := tok_size hk he
  have htx := tok_text hk he
  have hbytes : ∀ j, j < (tokenOf s k).1.text.size → byteAt S (q + j) = byteAt s (k + j) := fun j hj => by
    have e1 := byteAt_extract s k (k + (tokenOf s k).1.text.size) j (by omega) (by omega)
    have e2 := byteAt_extract S q (q + (tokenOf s k).1.text.size) j (by omega) (by omega)
    rw [← e1, ← e2, ht, htx]
  have h0 : byteAt S q = byteAt s k := hbytes 0 (by omega)
  have hbn := blank_not hb
  generalize hT : tokenOf s k = T at *
  unfold tokenOf at hT ⊢
  rw [h0]
  by_cases h1 : letterB (byteAt s k) = true
  · rw [if_pos h1] at hT ⊢
    by_cases h2 : wordEnd s k - k ≤ 32
    · rw [if_pos h2] at hT
      subst hT
      simp only at *
      have h3 := wordEnd_le s k (by omega)
      have h4 := wordEnd_ge s k
      have hn : (s.extract k (wordEnd s k)).size = wordEnd s k - k := by rw [ByteArray.size_extract]; omega
      rw [hn] at hq ht hb hbytes hbn hsz htx
      have hw : wordEnd S q = q + (wordEnd s k - k) := wordEnd_run S _ q (by omega) (fun j hj => by
        rw [hbytes j hj]
        exact wordEnd_all s k (k + j) (by omega) (by omega)) hbn
      rw [hw, if_pos (by omega), ht]
    · rw [if_neg h2] at hT
      subst hT
      simp at he
  · rw [if_neg h1] at hT ⊢
    by_cases h2 : digitB (byteAt s k) = true
    · rw [if_pos h2] at hT ⊢
      by_cases h3 : numOk (s.extract k (digitEnd s k)) = true
      · rw [if_pos h3] at hT
        subst hT
        simp only at *
        have h5 := digitEnd_le s k (by omega)
        have h4 := digitEnd_ge s k
        have hn : (s.extract k (digitEnd s k)).size = digitEnd s k - k := by rw [ByteArray.size_extract]; omega
        rw [hn] at hq ht hb hbytes hbn hsz htx
        have hw : digitEnd S q = q + (digitEnd s k - k) := digitEnd_run S _ q (by omega) (fun j hj => by
          rw [hbytes j hj]
          exact digitEnd_all s k (k + j) (by omega) (by omega)) hbn.2
        rw [hw, ht, if_pos h3]
      · rw [if_neg h3] at hT
        subst hT
        simp at he
    · rw [if_neg h2] at hT ⊢
      rcases h3 : signAt s k signTexts with _ | t
      · rw [h3] at hT
        subst hT
        simp [signTok] at he
      · rw [h3] at hT
        subst hT
        simp only [signTok] at *
        rw [sign_moves (s := s) (S := S) (k := k) (q := q) (t := t) (by omega) hq h3 ht hb]
end Go.Proofs.YthbgnpkgglbhjaaGreatDoor
/- Tokens as memory: the cells of a row of tokens, what an append leaves of it. -/
namespace Go.Proofs.YthbgnpkgglbhjaaGreatDoor
open Go.RowKit
/-- The error that wraps a fault. -/
def wrongVal (k : Nat) (e : Int) : Value := .iface 154 (.agg #[.string ⟨#[110, 111, 32, 116, 111, 107, 101, 110, 115]⟩, .int .i64 k, .int .i64 e])
def tokCells (t : Tok) : List Value := [.int .u8 t.kind, .string t.text, .int .i64 t.int, .int .i64 t.place]
def toksCells (l : List Tok) : List Value := l.flatMap tokCells
theorem toksCells_snoc (l : List Tok) (t : Tok) : toksCells (l ++ [t]) = toksCells l ++ tokCells t := by simp [toksCells]
theorem later_ownsRow {w : World} {base : Nat} {e : TypeId} {size : Nat} {v : Value} {n : Nat} {xs : List Value} (h : w.ownsRow base e size v n xs) (m : Nat) (os : Array Obj) : (later w m os).ownsRow base e size v n xs := by
  refine ⟨h.1, ?_⟩
  rcases h.2 with h | ⟨g, cap, cur, hv, hb, hg, rest⟩
  · exact .inl h
  · refine .inr ⟨g, cap, cur, hv, hb, ?_, rest⟩
    rw [later_heap_old]
    · exact hg
    · rcases Nat.lt_or_ge g w.heap.size with hlt | hge
      · exact hlt
      · rw [Array.getElem?_eq_none hge] at hg; cases hg
theorem Tryz.infoToken : (Tryz.prog.info? 72).map (fun i => (i.zero, i.size, i.bytes)) = some (some (.agg #[.int .u8 0, .string ⟨#[]⟩, .int .i64 0, .int .i64 0]), 4, 40) := by kernel_rfl
/-- What an append leaves of the memory: the result's cells, the element's text, what is below. -/
theorem grown_keep {w w1 w2 : World} {ty : TypeId} {v : Value} {n : Nat} {xs : List Value} {cs ds : Array Value} {t u : TypeId} (hb : Below w.heap.size w w1) (ho : w1.ownsRow (w.heap.size + 1) ty 4 v n xs) (hg : ((w1.alloc (.cells cs t)).alloc (.cells ds u)).grownBy w2 v.ownBlock) (hs : w.heap.size < w1.heap.size) :
    w2.cell? ⟨w.heap.size, 0, none⟩ = w1.cell? ⟨w.heap.size, 0, none⟩ ∧ w2.cell? ⟨w.heap.size, 1, none⟩ = w1.cell? ⟨w.heap.size, 1, none⟩ ∧ w2.frozen? ⟨w.heap.size, 0, none⟩ = w1.frozen? ⟨w.heap.size, 0, none⟩ ∧ w2.frozen? ⟨w.heap.size, 1, none⟩ = w1.frozen? ⟨w.heap.size, 1, none⟩ ∧ w2.cell? ⟨w1.heap.size, 1, none⟩ = cs[1]? ∧ w.heap.size < w2.heap.size ∧ Below w.heap.size w w2 := by
  have hrow : ∀ k, v.ownBlock = some k → w.heap.size + 1 ≤ k ∧ k < w1.heap.size := ho.lt
  have hne : ∀ k, k ≤ w.heap.size ∨ w1.heap.size ≤ k → some k ≠ v.ownBlock := fun k hk e => by
    have := hrow k e.symm
    omega
  have hsz := hg.size
  simp at hsz
  have hblock : ∀ k, k ≤ w.heap.size → w2.heap[k]? = w1.heap[k]? := fun k hk => by
    rw [hg.block k (by simp; omega) (hne k (Or.inl hk))]
    show ((w1.heap.push _).push _)[k]? = _
    rw [Array.getElem?_push_lt (by simp; omega)]
    rw [Array.getElem_push_lt (by omega)]
    simp [show k < w1.heap.size by omega]
  have hw := hblock w.heap.size (Nat.le_refl _)
  refine ⟨World.cell?_of_block hw, World.cell?_of_block hw, World.frozen?_of_block hw, World.frozen?_of_block hw, ?_, by omega, ?_⟩
  · rw [hg.cell_far ⟨w1.heap.size, 1, none⟩ (by simp; omega) (hne _ (Or.inr (Nat.le_refl _)))]
    rw [World.cell?_alloc_lt _ _ ⟨w1.heap.size, 1, none⟩ (by simp), World.cell?_alloc_at _ _ _ _ rfl]
  · exact ⟨hg.os.trans hb.os, hg.tape.trans hb.tape, hg.output.trans hb.output, by omega, fun k hk => (hblock k (by omega)).trans (hb.block k hk)⟩
theorem grown_keep1 {w w1 w2 : World} {ty : TypeId} {v : Value} {n : Nat} {xs : List Value} {ds : Array Value} {u : TypeId} (hb : Below w.heap.size w w1) (ho : w1.ownsRow (w.heap.size + 1) ty 4 v n xs) (hg : (w1.alloc (.cells ds u)).grownBy w2 v.ownBlock) (hs : w.heap.size < w1.heap.size) :
    w2.cell? ⟨w.heap.size, 0, none⟩ = w1.cell? ⟨w.heap.size, 0, none⟩ ∧ w2.cell? ⟨w.heap.size, 1, none⟩ = w1.cell? ⟨w.heap.size, 1, none⟩ ∧ w2.frozen? ⟨w.heap.size, 0, none⟩ = w1.frozen? ⟨w.heap.size, 0, none⟩ ∧ w2.frozen? ⟨w.heap.size, 1, none⟩ = w1.frozen? ⟨w.heap.size, 1, none⟩ ∧ w.heap.size < w2.heap.size ∧ Below w.heap.size w w2 := by
  have hrow : ∀ k, v.ownBlock = some k → w.heap.size + 1 ≤ k ∧ k < w1.heap.size := ho.lt
  have hne : ∀ k, k ≤ w.heap.size → some k ≠ v.ownBlock := fun k hk e => by
    have := hrow k e.symm
    omega
  have hsz := hg.size
  simp at hsz
  have hblock : ∀ k, k ≤ w.heap.size → w2.heap[k]? = w1.heap[k]? := fun k hk => by
    rw [hg.block k (by simp; omega) (hne k hk)]
    show (w1.heap.push _)[k]? = _
    rw [Array.getElem?_push_lt (by omega)]
    simp [show k < w1.heap.size by omega]
  have hw := hblock w.heap.size (Nat.le_refl _)
  exact ⟨World.cell?_of_block hw, World.cell?_of_block hw, World.frozen?_of_block hw, World.frozen?_of_block hw, by omega, ⟨hg.os.trans hb.os, hg.tape.trans hb.tape, hg.output.trans hb.output, by omega, fun k hk => (hblock k (by omega)).trans (hb.block k hk)⟩⟩
theorem toksCells_len (l : List Tok) : (toksCells l).length = l.length * 4 := by
  induction l with
  | nil => rfl
  | cons t r ih => simp only [toksCells, List.flatMap_cons, List.length_append, List.length_cons] at *; rw [ih]; simp [tokCells]; omega
theorem toksCells_at (l : List Tok) (k : Nat) (hk : k < l.length) (i : Nat) (hi : i < 4) : (toksCells l)[k * 4 + i]? = (tokCells l[k])[i]? := by
  induction l generalizing k with
  | nil => simp at hk
  | cons t r ih =>
    simp only [toksCells, List.flatMap_cons] at *
    have h4 : (tokCells t).length = 4 := rfl
    cases k with
    | zero =>
      rw [List.getElem?_append_left (by omega)]
      simp
    | succ k =>
      rw [List.getElem?_append_right (by omega), h4, show (k + 1) * 4 + i - 4 = k * 4 + i by omega]
      simpa using ih k (by simpa using hk)
theorem own_cells {w : World} {B : Nat} {ty : TypeId} {g cap : Nat} {l : List Tok} (h : w.ownsRow B ty 4 (.slice (some ⟨g, 0, none⟩) l.length cap) l.length (toksCells l)) {k : Nat} (hk : k < l.length) :
    w.cell? ⟨g, k * 4, none⟩ = some (.int .u8 l[k].kind) ∧ w.cell? ⟨g, k * 4 + 1, none⟩ = some (.string l[k].text) ∧ w.cell? ⟨g, k * 4 + 2, none⟩ = some (.int .i64 l[k].int) ∧ w.cell? ⟨g, k * 4 + 3, none⟩ = some (.int .i64 l[k].place) := by
  have h0 := h.cellAt (k * 4 + 0) (by omega)
  have h1 := h.cellAt (k * 4 + 1) (by omega)
  have h2 := h.cellAt (k * 4 + 2) (by omega)
  have h3 := h.cellAt (k * 4 + 3) (by omega)
  rw [toksCells_at l k hk _ (by omega)] at h0 h1 h2 h3
  exact ⟨h0, h1, h2, h3⟩
end Go.Proofs.YthbgnpkgglbhjaaGreatDoor
/- The program's letter, digit, byteOf, oneOrTwo; and how far a text goes on so: run. -/
namespace Go.Proofs.YthbgnpkgglbhjaaGreatDoor
open Go.RowKit
attribute [local go_sem] later_size later_cell later_frozen later_setCell later_drew later_drewN later_tape drewN_setCell drewN_alloc drewN_later later_later lt_more lt_more1 lt_more2 lt_more3 lt_more4 lk0_0_1 lk1_0_1 lk2_0_1 lk0_0_2 lk1_0_2 lk2_0_2 lk0_1_2 lk0_0_3 lk1_0_3 lk2_0_3 lk0_1_3 lk0_2_3 lk0_0_4 lk1_0_4 lk2_0_4 lk0_1_4 lk0_2_4 lk0_3_4 lk0_0_5 lk1_0_5 lk2_0_5 lk0_1_5 lk0_2_5 lk0_3_5 lk0_4_5 lk0_0_6 lk1_0_6 lk2_0_6 lk0_1_6 lk0_2_6 lk0_3_6 lk0_4_6 lk0_5_6 lk0_0_7 lk1_0_7 lk2_0_7 lk0_1_7 lk0_2_7 lk0_3_7 lk0_4_7 lk0_5_7 lk0_6_7
theorem pLetter_calls (c : Int) (w : World) : Calls Tryz.prog 116 #[.int .u8 c] w fun e w' => e = .returned (.bool (letterB c)) ∧ w' = w := by
  have hl : letterB c = decide ((65 ≤ c ∧ c ≤ 90) ∨ (97 ≤ c ∧ c ≤ 122) ∨ c = 95) := rfl
  have HL : Hid _ := hl
  clear hl
  go_enter Tryz.func116, Tryz.ntmps116
  go_wp2
  all_goals
    go_ret
    refine ⟨?_, rfl⟩
    rw [HL.out]
    try (refine congrArg (fun b => Ending.returned (.bool b)) ?_)
    rw [Bool.eq_iff_iff]
    simp
    try omega
theorem pDigit_calls (c : Int) (w : World) : Calls Tryz.prog 115 #[.int .u8 c] w fun e w' => e = .returned (.bool (digitB c)) ∧ w' = w := by
  have hl : digitB c = decide (48 ≤ c ∧ c ≤ 57) := rfl
  have HL : Hid _ := hl
  clear hl
  go_enter Tryz.func115, Tryz.ntmps115
  go_wp2
  all_goals
    go_ret
    refine ⟨?_, rfl⟩
    rw [HL.out]
    try (refine congrArg (fun b => Ending.returned (.bool b)) ?_)
    rw [Bool.eq_iff_iff]
    simp
    try omega
/-- Any byte but 10. -/
def onB (c : Int) : Bool := decide (c ≠ 10)
/-- A letter or a digit. -/
def partB (c : Int) : Bool := letterB c || digitB c
theorem pOn_calls (c : Int) (w : World) : Calls Tryz.prog 113 #[.int .u8 c] w fun e w' => e = .returned (.bool (onB c)) ∧ w' = w := by
  have hl : onB c = decide (c ≠ 10) := rfl
  have HL : Hid _ := hl
  clear hl
  go_enter Tryz.func113, Tryz.ntmps113
  go_wp2
  all_goals
    go_ret
    refine ⟨?_, rfl⟩
    rw [HL.out]
    try (refine congrArg (fun b => Ending.returned (.bool b)) ?_)
    rw [Bool.eq_iff_iff]
    simp
    try omega
theorem pPart_calls (c : Int) (w : World) : Calls Tryz.prog 117 #[.int .u8 c] w fun e w' => e = .returned (.bool (partB c)) ∧ w' = w := by
  have hl : partB c = (letterB c || digitB c) := rfl
  have HL : Hid _ := hl
  clear hl
  rcases h1 : letterB c with _ | _
  · go_enter Tryz.func117, Tryz.ntmps117
    go_wp2_with fail
    refine (pLetter_calls c _).mono ?_
    rintro e w' ⟨rfl, rfl⟩
    rw [h1]
    go_wp2_with fail
    refine (pDigit_calls c _).mono ?_
    rintro e w' ⟨rfl, rfl⟩
    go_wp2_with fail
    go_ret
    exact ⟨bool_ret (by rw [HL.out, h1, Bool.false_or]), rfl⟩
  · go_enter Tryz.func117, Tryz.ntmps117
    go_wp2_with fail
    refine (pLetter_calls c _).mono ?_
    rintro e w' ⟨rfl, rfl⟩
    rw [h1]
    go_wp2_with fail
    go_ret
    exact ⟨bool_ret (by rw [HL.out, h1, Bool.true_or]), rfl⟩
theorem pByte_calls (s : ByteArray) (k : Nat) (w : World) : Calls Tryz.prog 111 #[.string s, .int .i64 k] w fun e w' => e = .returned (.int .u8 (byteAt s k)) ∧ w' = w := by
  by_cases h : k < s.size
  · have HB : Hid (byteAt s k = (s[k].toNat : Int)) := byteAt_lt h
    go_enter Tryz.func111, Tryz.ntmps111
    go_wp2
    go_ret
    exact ⟨by rw [HB.out]; rfl, rfl⟩
  · have HB : Hid (byteAt s k = 0) := by simp [Hid, byteAt, h]
    go_enter Tryz.func111, Tryz.ntmps111
    go_wp2
    go_ret
    exact ⟨by rw [HB.out]; rfl, rfl⟩
def twoIf (b : Bool) : Int := if b = true then 2 else 1
theorem pTwo_calls (b : Bool) (w : World) : Calls Tryz.prog 114 #[.bool b] w fun e w' => e = .returned (.int .i64 (twoIf b)) ∧ w' = w := by
  cases b
  · go_enter Tryz.func114, Tryz.ntmps114
    go_wp2
    go_ret
    exact ⟨rfl, rfl⟩
  · go_enter Tryz.func114, Tryz.ntmps114
    go_wp2
    go_ret
    exact ⟨rfl, rfl⟩
theorem lineEnd_on {s : ByteArray} {k : Nat} (h : k < s.size) (g : onB (byteAt s k) = true) : lineEnd s (k + 1) = lineEnd s k := lineEnd_step h (by simpa [onB] using g)
theorem lineEnd_off {s : ByteArray} {k : Nat} (h : ¬ k < s.size ∨ onB (byteAt s k) = false) : lineEnd s k = k := lineEnd_here (h.elim Or.inl fun g => Or.inr (by simpa [onB] using g))
theorem wordEnd_on {s : ByteArray} {k : Nat} (h : k < s.size) (g : partB (byteAt s k) = true) : wordEnd s (k + 1) = wordEnd s k := wordEnd_step h (by simpa [partB] using g)
theorem wordEnd_off {s : ByteArray} {k : Nat} (h : ¬ k < s.size ∨ partB (byteAt s k) = false) : wordEnd s k = k := wordEnd_here (h.elim Or.inl fun g => Or.inr (by simpa [partB] using g))
theorem digitEnd_on {s : ByteArray} {k : Nat} (h : k < s.size) (g : digitB (byteAt s k) = true) : digitEnd s (k + 1) = digitEnd s k := digitEnd_step h g
theorem digitEnd_off {s : ByteArray} {k : Nat} (h : ¬ k < s.size ∨ digitB (byteAt s k) = false) : digitEnd s k = k := digitEnd_here h
set_option maxHeartbeats 1600000 in
theorem run1_calls (s : ByteArray) (w : World) (hs : s.size ≤ 1048576) : Calls Tryz.prog 112 #[.string s, .func (.func 113) #[] #[]] w fun e w' => e = .returned (.int .i64 (lineEnd s 0)) ∧ w' = w := by
  go_enter Tryz.func112, Tryz.ntmps112
  go_wp2
  go_loop [5] (fun i => ∃ k : Nat, k ≤ s.size ∧ i = .int .i64 k ∧ Hid (lineEnd s k = lineEnd s 0)) (fun i => s.size - (intOf i).toNat)
  case atStart => exact ⟨0, Nat.zero_le _, rfl, rfl⟩
  case round =>
    obtain ⟨k, hk, rfl, HK⟩ := hrel
    by_cases hlt : k < s.size
    · have HB : Hid (byteAt s k = (s[k].toNat : Int)) := byteAt_lt hlt
      rcases hd : onB (s[k].toNat : Int) with _ | _
      · have HJ : Hid (lineEnd s 0 = k) := by rw [Hid, ← HK.out]; exact lineEnd_off (Or.inr (by rw [HB.out]; exact hd))
        go_wp2_with fail
        refine (pOn_calls _ _).mono ?_
        rintro e w' ⟨rfl, rfl⟩
        rw [hd]
        go_wp2_with fail
        go_ret
        exact ⟨by rw [HJ.out]; rfl, rfl⟩
      · have HD : Hid _ := hd
        go_wp2_with fail
        refine (pOn_calls _ _).mono ?_
        rintro e w' ⟨rfl, rfl⟩
        rw [hd]
        go_wp2_with fail
        go_round
        case rel => exact ⟨k + 1, by omega, by go_num, by rw [Hid, ← HK.out]; exact lineEnd_on hlt (by rw [HB.out]; exact HD.out)⟩
        case measure => simp [intOf]; omega
    · have HJ : Hid (lineEnd s 0 = k) := by rw [Hid, ← HK.out]; exact lineEnd_off (Or.inl hlt)
      go_wp2_with fail
      go_ret
      exact ⟨by rw [HJ.out]; rfl, rfl⟩
set_option maxHeartbeats 1600000 in
theorem run2_calls (s : ByteArray) (w : World) (hs : s.size ≤ 1048576) : Calls Tryz.prog 112 #[.string s, .func (.func 115) #[] #[]] w fun e w' => e = .returned (.int .i64 (digitEnd s 0)) ∧ w' = w := by
  go_enter Tryz.func112, Tryz.ntmps112
  go_wp2
  go_loop [5] (fun i => ∃ k : Nat, k ≤ s.size ∧ i = .int .i64 k ∧ Hid (digitEnd s k = digitEnd s 0)) (fun i => s.size - (intOf i).toNat)
  case atStart => exact ⟨0, Nat.zero_le _, rfl, rfl⟩
  case round =>
    obtain ⟨k, hk, rfl, HK⟩ := hrel
    by_cases hlt : k < s.size
    · have HB : Hid (byteAt s k = (s[k].toNat : Int)) := byteAt_lt hlt
      rcases hd : digitB (s[k].toNat : Int) with _ | _
      · have HJ : Hid (digitEnd s 0 = k) := by rw [Hid, ← HK.out]; exact digitEnd_off (Or.inr (by rw [HB.out]; exact hd))
        go_wp2_with fail
        refine (pDigit_calls _ _).mono ?_
        rintro e w' ⟨rfl, rfl⟩
        rw [hd]
        go_wp2_with fail
        go_ret
        exact ⟨by rw [HJ.out]; rfl, rfl⟩
      · have HD : Hid _ := hd
        go_wp2_with fail
        refine (pDigit_calls _ _).mono ?_
        rintro e w' ⟨rfl, rfl⟩
        rw [hd]
        go_wp2_with fail
        go_round
        case rel => exact ⟨k + 1, by omega, by go_num, by rw [Hid, ← HK.out]; exact digitEnd_on hlt (by rw [HB.out]; exact HD.out)⟩
        case measure => simp [intOf]; omega
    · have HJ : Hid (digitEnd s 0 = k) := by rw [Hid, ← HK.out]; exact digitEnd_off (Or.inl hlt)
      go_wp2_with fail
      go_ret
      exact ⟨by rw [HJ.out]; rfl, rfl⟩
set_option maxHeartbeats 1600000 in
theorem run3_calls (s : ByteArray) (w : World) (hs : s.size ≤ 1048576) : Calls Tryz.prog 112 #[.string s, .func (.func 117) #[] #[]] w fun e w' => e = .returned (.int .i64 (wordEnd s 0)) ∧ w' = w := by
  go_enter Tryz.func112, Tryz.ntmps112
  go_wp2
  go_loop [5] (fun i => ∃ k : Nat, k ≤ s.size ∧ i = .int .i64 k ∧ Hid (wordEnd s k = wordEnd s 0)) (fun i => s.size - (intOf i).toNat)
  case atStart => exact ⟨0, Nat.zero_le _, rfl, rfl⟩
  case round =>
    obtain ⟨k, hk, rfl, HK⟩ := hrel
    by_cases hlt : k < s.size
    · have HB : Hid (byteAt s k = (s[k].toNat : Int)) := byteAt_lt hlt
      rcases hd : partB (s[k].toNat : Int) with _ | _
      · have HJ : Hid (wordEnd s 0 = k) := by rw [Hid, ← HK.out]; exact wordEnd_off (Or.inr (by rw [HB.out]; exact hd))
        go_wp2_with fail
        refine (pPart_calls _ _).mono ?_
        rintro e w' ⟨rfl, rfl⟩
        rw [hd]
        go_wp2_with fail
        go_ret
        exact ⟨by rw [HJ.out]; rfl, rfl⟩
      · have HD : Hid _ := hd
        go_wp2_with fail
        refine (pPart_calls _ _).mono ?_
        rintro e w' ⟨rfl, rfl⟩
        rw [hd]
        go_wp2_with fail
        go_round
        case rel => exact ⟨k + 1, by omega, by go_num, by rw [Hid, ← HK.out]; exact wordEnd_on hlt (by rw [HB.out]; exact HD.out)⟩
        case measure => simp [intOf]; omega
    · have HJ : Hid (wordEnd s 0 = k) := by rw [Hid, ← HK.out]; exact wordEnd_off (Or.inl hlt)
      go_wp2_with fail
      go_ret
      exact ⟨by rw [HJ.out]; rfl, rfl⟩
end Go.Proofs.YthbgnpkgglbhjaaGreatDoor
/- Tokens, by the kernel: the same scan with the signs told by the bytes as they lie. No program in sight. -/
namespace Go.Proofs.YthbgnpkgglbhjaaGreatDoor
def tokC (s : ByteArray) (k : Nat) : Tok × Int :=
  if letterB (byteAt s k) = true then
    if wordEnd s k - k ≤ 32 then (⟨if wordB (s.extract k (wordEnd s k)) = true then 3 else 1, s.extract k (wordEnd s k), 0, k⟩, 0)
    else (⟨0, ⟨#[]⟩, 0, 0⟩, 32)
  else if digitB (byteAt s k) = true then
    if numOk (s.extract k (digitEnd s k)) = true then (⟨2, s.extract k (digitEnd s k), numVal (s.extract k (digitEnd s k)), k⟩, 0)
    else (⟨0, ⟨#[]⟩, 0, 0⟩, 31)
  else signTok (signTexts.find? (standsD s k)) k
theorem tokC_eq (s : ByteArray) (k : Nat) : tokenOf s k = tokC s k := by
  unfold tokenOf tokC
  rw [signAt_data]
def scanC (s : ByteArray) : Nat → Nat → List Tok → List Tok × Nat × Int
  | 0, _, acc => (acc ++ [⟨0, ⟨#[]⟩, 0, s.size⟩], 0, 0)
  | n + 1, k, acc =>
    if k < s.size then
      if (tokC s k).2 = 0 then
        if acc.length + 1 < 16384 then scanC s n (afterTo s (k + (tokC s k).1.text.size)) (acc ++ [(tokC s k).1]) else ([], k, 6)
      else ([], k, (tokC s k).2)
    else (acc ++ [⟨0, ⟨#[]⟩, 0, s.size⟩], 0, 0)
theorem scanC_eq (s : ByteArray) : ∀ n k acc, scanN s n k acc = scanC s n k acc
  | 0, _, _ => rfl
  | n + 1, k, acc => by
    unfold scanN scanC
    rw [tokC_eq, scanC_eq s n]
def lexC (s : ByteArray) : List Tok × Nat × Int := if 65536 < s.size then ([], 65536, 4) else scanC s (s.size - afterTo s 0) (afterTo s 0) []
theorem lexC_eq (s : ByteArray) : lexOf s = lexC s := by
  unfold lexOf lexC scanFrom
  rw [scanC_eq]
end Go.Proofs.YthbgnpkgglbhjaaGreatDoor
