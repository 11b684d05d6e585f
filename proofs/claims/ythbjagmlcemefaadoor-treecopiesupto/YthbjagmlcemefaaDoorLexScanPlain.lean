/- All tokens of a text of bytes, as plain functions. No program in sight. -/
import Derived.Test.YthbjagmlcemefaaDoorLexTokPlain
namespace Go.Proofs.YthbjagmlcemefaaDoor

theorem signTexts_size (t : ByteArray) (h : t ∈ signTexts) : 1 ≤ t.size ∧ t.size ≤ 2 := by
  revert t
  decide
theorem stands_size {s : ByteArray} {k : Nat} {t : ByteArray} (h : standsB s k t = true) : t.size ≤ s.size - k := by
  simp only [standsB, decide_eq_true_eq] at h
  exact h.1
/-- A token that is one has a byte, and lies within the text. -/
theorem tok_size {s : ByteArray} {k : Nat} (hk : k < s.size) (he : (tokenOf s k).2 = 0) : 0 < (tokenOf s k).1.text.size ∧ k + (tokenOf s k).1.text.size ≤ s.size ∧ (tokenOf s k).1.place = k := by
  unfold tokenOf at *
  by_cases h1 : letterB (byteAt s k) = true
  · rw [if_pos h1] at he ⊢
    by_cases h2 : wordEnd s k - k ≤ 32
    · rw [if_pos h2]
      have h3 := wordEnd_le s k (by omega)
      have h4 : k < wordEnd s k := by
        rw [← wordEnd_step hk (Or.inl h1)]
        have := wordEnd_ge s (k + 1)
        omega
      refine ⟨?_, ?_, rfl⟩ <;> simp only [ByteArray.size_extract] <;> omega
    · rw [if_neg h2] at he
      simp at he
  · rw [if_neg h1] at he ⊢
    by_cases h2 : digitB (byteAt s k) = true
    · rw [if_pos h2] at he ⊢
      by_cases h3 : numOk (s.extract k (digitEnd s k)) = true
      · rw [if_pos h3]
        have h3 := digitEnd_le s k (by omega)
        have h4 : k < digitEnd s k := by
          rw [← digitEnd_step hk h2]
          have := digitEnd_ge s (k + 1)
          omega
        refine ⟨?_, ?_, rfl⟩ <;> simp only [ByteArray.size_extract] <;> omega
      · rw [if_neg h3] at he
        simp at he
    · rw [if_neg h2] at he ⊢
      rcases h3 : signAt s k signTexts with _ | t
      · rw [h3] at he
        simp [signTok] at he
      · simp only [signTok]
        have h4 := List.mem_of_find?_eq_some h3
        have h5 := List.find?_some h3
        have h6 := signTexts_size t h4
        have h7 := stands_size h5
        refine ⟨?_, ?_, trivial⟩ <;> omega
/-- The tokens from a place on, behind those that there are; else the place and the error: by at most n steps. -/
def scanN (s : ByteArray) : Nat → Nat → List Tok → List Tok × Nat × Int
  | 0, _, acc => (acc ++ [⟨0, ⟨#[]⟩, 0, s.size⟩], 0, 0)
  | n + 1, k, acc =>
    if k < s.size then
      if (tokenOf s k).2 = 0 then
        if acc.length + 1 < 16384 then scanN s n (afterTo s (k + (tokenOf s k).1.text.size)) (acc ++ [(tokenOf s k).1]) else ([], k, 6)
      else ([], k, (tokenOf s k).2)
    else (acc ++ [⟨0, ⟨#[]⟩, 0, s.size⟩], 0, 0)
theorem tok_on {s : ByteArray} {k : Nat} (hk : k < s.size) (he : (tokenOf s k).2 = 0) : k < afterTo s (k + (tokenOf s k).1.text.size) := by
  have h1 := (tok_size hk he).1
  have h2 := afterTo_ge s (k + (tokenOf s k).1.text.size)
  omega
theorem scanN_far (s : ByteArray) (n : Nat) : ∀ m k acc, s.size - k ≤ n → s.size - k ≤ m → scanN s n k acc = scanN s m k acc := by
  induction n with
  | zero =>
    intro m k acc h1 h2
    cases m with
    | zero => rfl
    | succ m => rw [scanN, scanN, if_neg (by omega)]
  | succ n ih =>
    intro m k acc h1 h2
    by_cases h : k < s.size
    · obtain ⟨q, rfl⟩ : ∃ q, m = q + 1 := ⟨m - 1, by omega⟩
      rw [scanN, scanN, if_pos h, if_pos h]
      by_cases h3 : (tokenOf s k).2 = 0
      · rw [if_pos h3, if_pos h3]
        have := tok_on h h3
        by_cases h4 : acc.length + 1 < 16384
        · rw [if_pos h4, if_pos h4]
          exact ih q _ _ (by omega) (by omega)
        · rw [if_neg h4, if_neg h4]
      · rw [if_neg h3, if_neg h3]
    · cases m with
      | zero => rw [scanN, scanN, if_neg h]
      | succ m => rw [scanN, scanN, if_neg h, if_neg h]
/-- The tokens from a place on, behind those that there are; else the place and the error. -/
def scanFrom (s : ByteArray) (k : Nat) (acc : List Tok) : List Tok × Nat × Int := scanN s (s.size - k) k acc
theorem scan_eq (s : ByteArray) (k : Nat) (acc : List Tok) : scanFrom s k acc = if k < s.size then
      if (tokenOf s k).2 = 0 then
        if acc.length + 1 < 16384 then scanFrom s (afterTo s (k + (tokenOf s k).1.text.size)) (acc ++ [(tokenOf s k).1]) else ([], k, 6)
      else ([], k, (tokenOf s k).2)
    else (acc ++ [⟨0, ⟨#[]⟩, 0, s.size⟩], 0, 0) := by
  unfold scanFrom
  by_cases h : k < s.size
  · rw [if_pos h, show s.size - k = (s.size - (k + 1)) + 1 by omega, scanN, if_pos h]
    by_cases h3 : (tokenOf s k).2 = 0
    · rw [if_pos h3, if_pos h3]
      have := tok_on h h3
      by_cases h4 : acc.length + 1 < 16384
      · rw [if_pos h4, if_pos h4]
        exact scanN_far s _ _ _ _ (by omega) (by omega)
      · rw [if_neg h4, if_neg h4]
    · rw [if_neg h3, if_neg h3]
  · rw [if_neg h, show s.size - k = 0 by omega, scanN]
theorem scan_step {s : ByteArray} {k : Nat} {acc : List Tok} (h : k < s.size) (g : (tokenOf s k).2 = 0) (l : acc.length + 1 < 16384) : scanFrom s (afterTo s (k + (tokenOf s k).1.text.size)) (acc ++ [(tokenOf s k).1]) = scanFrom s k acc := by
  conv => rhs; rw [scan_eq, if_pos h, if_pos g, if_pos l]
theorem scan_full {s : ByteArray} {k : Nat} {acc : List Tok} (h : k < s.size) (g : (tokenOf s k).2 = 0) (l : ¬ acc.length + 1 < 16384) : scanFrom s k acc = ([], k, 6) := by
  rw [scan_eq, if_pos h, if_pos g, if_neg l]
theorem scan_wrong {s : ByteArray} {k : Nat} {acc : List Tok} (h : k < s.size) (g : ¬ (tokenOf s k).2 = 0) : scanFrom s k acc = ([], k, (tokenOf s k).2) := by
  rw [scan_eq, if_pos h, if_neg g]
theorem scan_end {s : ByteArray} {k : Nat} {acc : List Tok} (h : ¬ k < s.size) : scanFrom s k acc = (acc ++ [⟨0, ⟨#[]⟩, 0, s.size⟩], 0, 0) := by
  rw [scan_eq, if_neg h]
/-- All tokens; else the place and the error. -/
def lexOf (s : ByteArray) : List Tok × Nat × Int := if 65536 < s.size then ([], 65536, 4) else scanFrom s (afterTo s 0) []
theorem scan_err (s : ByteArray) (k : Nat) (acc : List Tok) (h : (scanFrom s k acc).2.2 ≠ 0) : (scanFrom s k acc).1 = [] := by
  induction hm : s.size - k using Nat.strongRecOn generalizing k acc with
  | ind m ih =>
    rw [scan_eq] at h ⊢
    by_cases h1 : k < s.size
    · rw [if_pos h1] at h ⊢
      by_cases h2 : (tokenOf s k).2 = 0
      · rw [if_pos h2] at h ⊢
        by_cases h3 : acc.length + 1 < 16384
        · rw [if_pos h3] at h ⊢
          have := tok_on h1 h2
          exact ih _ (by omega) _ _ h rfl
        · rw [if_neg h3]
      · rw [if_neg h2]
    · rw [if_neg h1] at h
      simp at h
theorem scan_len (s : ByteArray) (k : Nat) (acc : List Tok) (h : acc.length + 1 ≤ 16384) : (scanFrom s k acc).1.length ≤ 16384 := by
  induction hm : s.size - k using Nat.strongRecOn generalizing k acc with
  | ind m ih =>
    rw [scan_eq]
    by_cases h1 : k < s.size
    · rw [if_pos h1]
      by_cases h2 : (tokenOf s k).2 = 0
      · rw [if_pos h2]
        by_cases h3 : acc.length + 1 < 16384
        · rw [if_pos h3]
          have := tok_on h1 h2
          exact ih _ (by omega) _ _ (by simp; omega) rfl
        · rw [if_neg h3]
          simp
      · rw [if_neg h2]
        simp
    · rw [if_neg h1]
      simp
      omega
theorem lex_len (s : ByteArray) : (lexOf s).1.length ≤ 16384 := by
  unfold lexOf
  split
  · simp
  · exact scan_len s _ _ (by simp)
theorem lex_err {s : ByteArray} (h : (lexOf s).2.2 ≠ 0) : (lexOf s).1 = [] := by
  unfold lexOf at *
  split
  · rfl
  · rename_i h1
    rw [if_neg h1] at h
    exact scan_err s _ _ h
end Go.Proofs.YthbjagmlcemefaaDoor
