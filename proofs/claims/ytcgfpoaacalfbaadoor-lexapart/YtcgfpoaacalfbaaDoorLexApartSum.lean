/- The tokens of a source, and those of the source that they make with blanks between: the theorem of layer 3 as a plain fact. No program in sight. -/
import Derived.Test.YtcgfpoaacalfbaaDoorLexApartPlain
namespace Go.Proofs.YtcgfpoaacalfbaaDoor

theorem tok_short {s : ByteArray} {k : Nat} (hk : k < s.size) (he : (tokenOf s k).2 = 0) : (tokenOf s k).1.text.size ≤ 32 := by
  unfold tokenOf at *
  by_cases h1 : letterB (byteAt s k) = true
  · rw [if_pos h1] at he ⊢
    by_cases h2 : wordEnd s k - k ≤ 32
    · rw [if_pos h2]
      simp only [ByteArray.size_extract]
      omega
    · rw [if_neg h2] at he
      simp at he
  · rw [if_neg h1] at he ⊢
    by_cases h2 : digitB (byteAt s k) = true
    · rw [if_pos h2] at he ⊢
      by_cases h3 : numOk (s.extract k (digitEnd s k)) = true
      · rw [if_pos h3]
        simp only [numOk, decide_eq_true_eq] at h3
        show (s.extract k (digitEnd s k)).size ≤ 32
        omega
      · rw [if_neg h3] at he
        simp at he
    · rw [if_neg h2] at he ⊢
      rcases h3 : signAt s k signTexts with _ | t
      · rw [h3] at he
        simp [signTok] at he
      · simp only [signTok]
        have := signTexts_size t (List.mem_of_find?_eq_some h3)
        omega
/-- What is scanned without an error: tokens, and the end. -/
theorem scan_toks (s : ByteArray) (k : Nat) (acc : List Tok) (ha : ∀ t ∈ acc, IsTok s t) (_hk : k ≤ s.size) (h : (scanFrom s k acc).2.2 = 0) : ∃ m, (scanFrom s k acc).1 = m ++ [⟨0, ⟨#[]⟩, 0, s.size⟩] ∧ (∀ t ∈ m, IsTok s t) ∧ m.length ≤ acc.length + (s.size - k) := by
  induction hm : s.size - k using Nat.strongRecOn generalizing k acc with
  | ind d ih =>
    rw [scan_eq] at h ⊢
    by_cases h1 : k < s.size
    · rw [if_pos h1] at h ⊢
      by_cases h2 : (tokenOf s k).2 = 0
      · rw [if_pos h2] at h ⊢
        by_cases h3 : acc.length + 1 < 16384
        · rw [if_pos h3] at h ⊢
          have h4 := tok_size h1 h2
          have h5 := afterTo_ge s (k + (tokenOf s k).1.text.size)
          have h6 := afterTo_le s (k + (tokenOf s k).1.text.size) h4.2.1
          have h7 := tok_on h1 h2
          obtain ⟨m, e1, e2, e3⟩ := ih (s.size - afterTo s (k + (tokenOf s k).1.text.size)) (by omega) (afterTo s (k + (tokenOf s k).1.text.size)) (acc ++ [(tokenOf s k).1]) (fun t ht => by
            rw [List.mem_append, List.mem_singleton] at ht
            rcases ht with ht | rfl
            · exact ha t ht
            · refine ⟨by rw [h4.2.2]; exact h1, ?_⟩
              rw [h4.2.2]
              exact Prod.ext rfl h2) h6 h rfl
          refine ⟨m, e1, e2, ?_⟩
          simp at e3
          omega
        · rw [if_neg h3] at h
          simp at h
      · rw [if_neg h2] at h
        exact absurd h h2
    · rw [if_neg h1]
      exact ⟨acc, rfl, ha, by omega⟩
theorem lex_toks {s : ByteArray} {l : List Tok} {k : Nat} (h : lexOf s = (l, k, 0)) : ∃ m, l = m ++ [⟨0, ⟨#[]⟩, 0, s.size⟩] ∧ (∀ t ∈ m, IsTok s t) ∧ m.length ≤ s.size := by
  unfold lexOf at h
  split at h
  · simp at h
  · have h0 := afterTo_le s 0 (by omega)
    obtain ⟨m, e1, e2, e3⟩ := scan_toks s (afterTo s 0) [] (fun t ht => by simp at ht) h0 (by rw [h])
    rw [h] at e1
    exact ⟨m, e1, e2, by simp at e3; omega⟩
/-- The text that is made token by token. -/
def spreadTo (B : Nat → List UInt8) (l : List Tok) : Nat → List UInt8
  | 0 => []
  | n + 1 => spreadTo B l n ++ (B n ++ (((l[n]?).map (·.text.data.toList)).getD []))
theorem spread_snoc (r : List (List UInt8 × Tok)) (b : List UInt8) (t : Tok) : spread (r ++ [(b, t)]) = spread r ++ (b ++ t.text.data.toList) := by
  induction r with
  | nil => simp [spread]
  | cons x r ih => simp [spread, ih]
theorem spreadTo_eq (B : Nat → List UInt8) (l : List Tok) (n : Nat) (hn : n ≤ l.length) : spreadTo B l n = spread ((List.range n).map fun i => (B i, l[i]?.getD ⟨0, ⟨#[]⟩, 0, 0⟩)) := by
  induction n with
  | zero => rfl
  | succ n ih =>
    rw [List.range_succ, List.map_append, spreadTo, ih (by omega)]
    simp only [List.map_cons, List.map_nil]
    rw [spread_snoc, List.getElem?_eq_getElem (show n < l.length by omega)]
    rfl
theorem spreadTo_len (B : Nat → List UInt8) (hB : ∀ i, B i ∈ blankList) (l : List Tok) (hl : ∀ t ∈ l, t.text.size ≤ 32) (n : Nat) : (spreadTo B l n).length ≤ n * 42 := by
  induction n with
  | zero => simp [spreadTo]
  | succ n ih =>
    have h1 := blank_len (hB n)
    have h2 : (((l[n]?).map (·.text.data.toList)).getD []).length ≤ 32 := by
      by_cases h : n < l.length
      · rw [List.getElem?_eq_getElem h]
        have := hl l[n] (List.getElem_mem _)
        simpa [size_list] using this
      · rw [List.getElem?_eq_none (by omega)]
        simp
    simp only [spreadTo, List.length_append]
    omega
/-- Whatever blanks stand between, the tokens are the same, but for their places, and stand one behind the other. -/
theorem apart {s S : ByteArray} {l : List Tok} {k : Nat} (h : lexOf s = (l, k, 0)) (hs : s.size ≤ 1024) (B : Nat → List UInt8) (hB : ∀ i, B i ∈ blankList) (hS : S.data.toList = spreadTo B l l.length ++ [10]) :
    ∃ l', lexOf S = (l', 0, 0) ∧ l'.length = l.length ∧ (∀ i (h1 : i < l'.length) (h2 : i < l.length), Alike l'[i] l[i]) ∧ l'.Pairwise (fun a b => a.place < b.place) := by
  obtain ⟨m, rfl, hm, hml⟩ := lex_toks h
  have hlen : (m ++ [(⟨0, ⟨#[]⟩, 0, s.size⟩ : Tok)]).length = m.length + 1 := by simp
  rw [hlen] at hS
  have hsp : spreadTo B (m ++ [(⟨0, ⟨#[]⟩, 0, s.size⟩ : Tok)]) (m.length + 1) = spread ((List.range m.length).map fun i => (B i, m[i]?.getD ⟨0, ⟨#[]⟩, 0, 0⟩)) ++ B m.length := by
    rw [spreadTo, spreadTo_eq _ _ _ (by simp)]
    congr 1
    · congr 1
      apply List.map_congr_left
      intro i hi
      have hi2 : i < m.length := by simpa using hi
      rw [List.getElem?_append_left hi2]
    · rw [List.getElem?_append_right (by omega)]
      simp
  rw [hsp] at hS
  have hsmall : ∀ t ∈ m ++ [(⟨0, ⟨#[]⟩, 0, s.size⟩ : Tok)], t.text.size ≤ 32 := fun t ht => by
    rw [List.mem_append, List.mem_singleton] at ht
    rcases ht with ht | rfl
    · obtain ⟨h1, h2⟩ := hm t ht
      have := tok_short h1 (by rw [h2])
      rw [h2] at this
      exact this
    · show 0 ≤ 32
      omega
  have hSz : S.size ≤ 65536 := by
    have h1 := spreadTo_len B hB _ hsmall (m.length + 1)
    rw [hsp] at h1
    rw [← size_list, hS, List.length_append]
    simp only [List.length_singleton]
    omega
  obtain ⟨l', e1, e2, e3, _, e5⟩ := spread_scan (src := s) (S := S) ⟨0, ⟨#[]⟩, 0, s.size⟩ (B m.length) (hB _) rfl rfl rfl ((List.range m.length).map fun i => (B i, m[i]?.getD ⟨0, ⟨#[]⟩, 0, 0⟩)) [] [] (by rw [hS]; simp)
    (fun x hx => by
      obtain ⟨i, _, rfl⟩ := List.mem_map.1 hx
      exact hB i)
    (fun x hx => by
      obtain ⟨i, hi, rfl⟩ := List.mem_map.1 hx
      have hi2 : i < m.length := by simpa using hi
      simp only
      rw [List.getElem?_eq_getElem hi2]
      exact hm _ (List.getElem_mem _))
    (by simp; omega)
  refine ⟨l', ?_, by rw [e2]; simp, ?_, e5⟩
  · rw [lexOf, if_neg (by omega)]
    exact e1
  · intro i h1 h2
    have h3 := e3 i h1
    have h4 : (List.map (·.2) ((List.range m.length).map fun i => (B i, m[i]?.getD ⟨0, ⟨#[]⟩, 0, 0⟩)) ++ [(⟨0, ⟨#[]⟩, 0, s.size⟩ : Tok)])[i]? = (m ++ [(⟨0, ⟨#[]⟩, 0, s.size⟩ : Tok)])[i]? := by
      congr 2
      rw [List.map_map]
      apply List.ext_getElem?
      intro j
      by_cases hj : j < m.length
      · simp [hj]
      · simp [hj]
    rw [h4, List.getElem?_eq_getElem h2] at h3
    exact h3
end Go.Proofs.YtcgfpoaacalfbaaDoor
