/- Texts of one byte, again and again, and what they have, as plain facts. No program in sight. -/
import Derived.Test.YthbjagmlcemefaaDoorLexAlivePlain
namespace Go.Proofs.YthbjagmlcemefaaDoor
/-- n times the byte c. -/
def rep (n : Nat) (c : UInt8) : ByteArray := ⟨(List.replicate n c).toArray⟩
theorem rep_size (n : Nat) (c : UInt8) : (rep n c).size = n := by
  show (List.replicate n c).toArray.size = n
  simp
theorem rep_at {n : Nat} {c : UInt8} {k : Nat} (h : k < n) : byteAt (rep n c) k = (c.toNat : Int) := by
  rw [byteAt_lt (by rw [rep_size]; exact h)]
  have : (rep n c)[k]'(by rw [rep_size]; exact h) = c := by
    show (List.replicate n c).toArray[k]'_ = c
    simp
  rw [this]
/-- What stands there begins as it does. -/
theorem stands_first {s : ByteArray} {k : Nat} {t : ByteArray} (h : standsB s k t = true) (h0 : 0 < t.size) : byteAt s k = byteAt t 0 := by
  simp only [standsB, decide_eq_true_eq] at h
  obtain ⟨h1, h2⟩ := h
  rw [ByteArray.toList_eq, ByteArray.toList_eq] at h2
  have h3 : (s.extract k (k + t.size)).data = t.data := Array.toList_inj.1 h2
  have h4 : s.extract k (k + t.size) = t := by
    cases t
    cases hx : s.extract k _ with
    | mk d => rw [hx] at h3; exact congrArg ByteArray.mk h3
  have h5 := byteAt_extract s k (k + t.size) 0 (by omega) (by omega)
  rw [h4] at h5
  simpa using h5.symm
theorem signs_first : ∀ i : Fin 9, byteAt (signTexts[i.val]'(Nat.lt_of_lt_of_le i.isLt (by decide))) 0 ≠ 59 := by decide
theorem semi_tok {n k : Nat} (h : k < n) : tokenOf (rep n 59) k = (⟨4, ⟨#[59]⟩, 0, k⟩, 0) := by
  have hb : byteAt (rep n 59) k = 59 := rep_at h
  have hno : ∀ t : ByteArray, 0 < t.size → byteAt t 0 ≠ 59 → standsB (rep n 59) k t = false := fun t h0 hne => by
    rw [Bool.eq_false_iff]
    intro hs
    have := stands_first hs h0
    omega
  have hyes : standsB (rep n 59) k ⟨#[59]⟩ = true := by
    simp only [standsB, decide_eq_true_eq]
    have e1 : (⟨#[59]⟩ : ByteArray).size = 1 := rfl
    rw [e1, rep_size]
    refine ⟨by omega, ?_⟩
    rw [ByteArray.toList_eq, ByteArray.toList_eq]
    have hsz : ((rep n 59).extract k (k + 1)).size = 1 := by rw [ByteArray.size_extract, rep_size]; omega
    apply List.ext_getElem
    · show ((rep n 59).extract k (k + 1)).data.toList.length = 1
      rw [Array.length_toList]
      exact hsz
    · intro i hi hi2
      have hi0 : i = 0 := by simp at hi2; omega
      subst hi0
      have h5 : byteAt ((rep n 59).extract k (k + 1)) 0 = 59 := by
        rw [byteAt_extract (rep n 59) k (k + 1) 0 (by rw [rep_size]; omega) (by omega)]
        exact hb
      rw [byteAt_lt (by omega)] at h5
      have h6 : ((rep n 59).extract k (k + 1))[0].toNat = 59 := by omega
      have h7 : ((rep n 59).extract k (k + 1))[0] = 59 := UInt8.toNat_inj.1 h6
      exact h7
  have hs : signAt (rep n 59) k signTexts = some ⟨#[59]⟩ := by
    have := signAt_hit (rep n 59) k signTexts 9 (by decide) (fun i hi hi9 => by
      apply hno
      · have := signTexts_size (signTexts[i]) (List.getElem_mem _)
        omega
      · have : i = 0 ∨ i = 1 ∨ i = 2 ∨ i = 3 ∨ i = 4 ∨ i = 5 ∨ i = 6 ∨ i = 7 ∨ i = 8 := by omega
        rcases this with rfl | rfl | rfl | rfl | rfl | rfl | rfl | rfl | rfl
        · exact signs_first 0
        · exact signs_first 1
        · exact signs_first 2
        · exact signs_first 3
        · exact signs_first 4
        · exact signs_first 5
        · exact signs_first 6
        · exact signs_first 7
        · exact signs_first 8) hyes
    exact this
  rw [tokenOf, if_neg (by rw [hb]; decide), if_neg (by rw [hb]; decide), hs]
  rfl
theorem semi_after {n k : Nat} (_h : k ≤ n) : afterTo (rep n 59) k = k := by
  by_cases hk : k < n
  · have hb : byteAt (rep n 59) k = 59 := rep_at hk
    refine afterTo_here (by rw [rep_size]; exact hk) (by rw [hb]; decide) ?_
    simp only [hyphensB, decide_eq_false_iff_not]
    omega
  · exact afterTo_end (by rw [rep_size]; exact hk)
theorem semi_few {n : Nat} (hn : n ≤ 16383) (k : Nat) (acc : List Tok) (hk : k ≤ n) (ha : acc.length = k) : ∃ l, scanFrom (rep n 59) k acc = (l ++ [⟨0, ⟨#[]⟩, 0, n⟩], 0, 0) ∧ l.length = n := by
  induction hm : n - k using Nat.strongRecOn generalizing k acc with
  | ind m ih =>
    by_cases h : k < n
    · obtain ⟨l, h1, h2⟩ := ih (n - (k + 1)) (by omega) (k + 1) (acc ++ [⟨4, ⟨#[59]⟩, 0, k⟩]) (by omega) (by simp; omega) rfl
      refine ⟨l, ?_, h2⟩
      exact scan_on (semi_tok h) (by rw [rep_size]; exact h) (by omega) (semi_after (by show k + 1 ≤ n; omega)) h1
    · refine ⟨acc, ?_, by omega⟩
      have := scan_end (s := rep n 59) (k := k) (acc := acc) (by rw [rep_size]; exact h)
      rw [rep_size] at this
      exact this
theorem semi_many {n : Nat} (hn : 16383 < n) (k : Nat) (acc : List Tok) (hk : k ≤ 16383) (ha : acc.length = k) : scanFrom (rep n 59) k acc = ([], 16383, 6) := by
  induction hm : 16383 - k using Nat.strongRecOn generalizing k acc with
  | ind m ih =>
    by_cases h : k < 16383
    · have h1 := ih (16383 - (k + 1)) (by omega) (k + 1) (acc ++ [⟨4, ⟨#[59]⟩, 0, k⟩]) (by omega) (by simp; omega) rfl
      exact scan_on (semi_tok (by omega)) (by rw [rep_size]; omega) (by omega) (semi_after (by show k + 1 ≤ n; omega)) h1
    · obtain rfl : k = 16383 := by omega
      exact scan_full (by rw [rep_size]; omega) (by rw [semi_tok (by omega)]) (by omega)
theorem lex_semi_few {n : Nat} (hn : n ≤ 16383) : ∃ l, lexOf (rep n 59) = (l ++ [⟨0, ⟨#[]⟩, 0, n⟩], 0, 0) ∧ l.length = n := by
  rw [lexOf, if_neg (by rw [rep_size]; omega), semi_after (by omega)]
  exact semi_few hn 0 [] (by omega) rfl
theorem lex_semi_many {n : Nat} (hn : 16383 < n) (hm : n ≤ 65536) : lexOf (rep n 59) = ([], 16383, 6) := by
  rw [lexOf, if_neg (by rw [rep_size]; omega), semi_after (by omega)]
  exact semi_many hn 0 [] (by omega) rfl
theorem blank_after {n : Nat} (k : Nat) (h : k ≤ n) : afterTo (rep n 32) k = n := by
  induction hm : n - k using Nat.strongRecOn generalizing k with
  | ind m ih =>
    by_cases hk : k < n
    · exact after_skip (ih (n - (k + 1)) (by omega) (k + 1) (by omega) rfl) (by rw [rep_size]; exact hk) (by rw [rep_at hk]; decide)
    · rw [afterTo_end (by rw [rep_size]; exact hk)]
      omega
theorem lex_blank_few {n : Nat} (hn : n ≤ 65536) : lexOf (rep n 32) = ([⟨0, ⟨#[]⟩, 0, n⟩], 0, 0) := by
  rw [lexOf, if_neg (by rw [rep_size]; omega), blank_after 0 (by omega), scan_end (by rw [rep_size]; omega), rep_size]
  rfl
theorem lex_long {s : ByteArray} (h : 65536 < s.size) : lexOf s = ([], 65536, 4) := by rw [lexOf, if_pos h]
end Go.Proofs.YthbjagmlcemefaaDoor
