/- A token stays what it is wherever it stands, if a blank stands behind it, as plain facts. No program in sight. -/
import Derived.Test.YthbjagmlcemefaaDoorLexRepPlain
namespace Go.Proofs.YthbjagmlcemefaaDoor

theorem size_list (s : ByteArray) : s.data.toList.length = s.size := by
  rw [Array.length_toList]
  rfl
theorem byteAt_mid {s : ByteArray} {pre mid rest : List UInt8} (h : s.data.toList = pre ++ (mid ++ rest)) {i : Nat} (hi : i < mid.length) : byteAt s (pre.length + i) = (mid[i].toNat : Int) := by
  have hsz : s.size = pre.length + (mid.length + rest.length) := by rw [← size_list, h]; simp
  rw [byteAt_lt (by omega)]
  have e : s[pre.length + i]'(by omega) = s.data.toList[pre.length + i]'(by rw [size_list]; omega) := rfl
  rw [e]
  have : s.data.toList[pre.length + i]'(by rw [size_list]; omega) = mid[i] := by
    simp only [h]
    rw [List.getElem_append_right (by omega), List.getElem_append_left (by omega)]
    congr 1
    omega
  rw [this]
theorem ba_ext {a b : ByteArray} (h : a.data.toList = b.data.toList) : a = b := by
  cases a
  cases b
  exact congrArg ByteArray.mk (Array.toList_inj.1 h)
theorem extract_mid {s : ByteArray} {pre rest : List UInt8} {t : ByteArray} (h : s.data.toList = pre ++ (t.data.toList ++ rest)) : s.extract pre.length (pre.length + t.size) = t := by
  apply ba_ext
  have hsz : s.size = pre.length + (t.size + rest.length) := by rw [← size_list, h]; simp
  apply List.ext_getElem
  · rw [size_list, size_list, ByteArray.size_extract]
    omega
  · intro i h1 h2
    rw [size_list] at h2
    have h3 : i < (s.extract pre.length (pre.length + t.size)).size := by rw [← size_list]; exact h1
    have e1 := byteAt_extract s pre.length (pre.length + t.size) i (by omega) (by omega)
    rw [byteAt_mid h (i := i) (by rw [size_list]; exact h2), byteAt_lt h3] at e1
    have e2 : ((s.extract pre.length (pre.length + t.size))[i]'h3).toNat = (t.data.toList[i]'(by rw [size_list]; exact h2)).toNat := by omega
    exact UInt8.toNat_inj.1 e2
theorem wordEnd_all (s : ByteArray) (k j : Nat) (h : k ≤ j) (g : j < wordEnd s k) : letterB (byteAt s j) = true ∨ digitB (byteAt s j) = true := by
  induction hm : s.size - k using Nat.strongRecOn generalizing k with
  | ind m ih =>
    rw [wordEnd_eq] at g
    split at g
    · rename_i h1
      by_cases e : j = k
      · subst e; exact h1.2
      · exact ih (s.size - (k + 1)) (by omega) (k + 1) (by omega) g rfl
    · omega
theorem wordEnd_run (s : ByteArray) (n k : Nat) (hs : k + n ≤ s.size) (h : ∀ j, j < n → letterB (byteAt s (k + j)) = true ∨ digitB (byteAt s (k + j)) = true) (g : letterB (byteAt s (k + n)) = false ∧ digitB (byteAt s (k + n)) = false) : wordEnd s k = k + n := by
  induction n generalizing k with
  | zero => exact wordEnd_here (Or.inr g)
  | succ n ih =>
    have h0 : letterB (byteAt s k) = true ∨ digitB (byteAt s k) = true := h 0 (by omega)
    rw [← wordEnd_step (by omega) h0, ih (k + 1) (by omega) (fun j hj => by have := h (j + 1) (by omega); rwa [show k + (j + 1) = k + 1 + j by omega] at this) (by rwa [show k + (n + 1) = k + 1 + n by omega] at g)]
    omega
theorem digitEnd_run (s : ByteArray) (n k : Nat) (hs : k + n ≤ s.size) (h : ∀ j, j < n → digitB (byteAt s (k + j)) = true) (g : digitB (byteAt s (k + n)) = false) : digitEnd s k = k + n := by
  induction n generalizing k with
  | zero => exact digitEnd_here (Or.inr g)
  | succ n ih =>
    have h0 : digitB (byteAt s k) = true := h 0 (by omega)
    rw [← digitEnd_step (by omega) h0, ih (k + 1) (by omega) (fun j hj => by have := h (j + 1) (by omega); rwa [show k + (j + 1) = k + 1 + j by omega] at this) (by rwa [show k + (n + 1) = k + 1 + n by omega] at g)]
    omega
theorem stands_text {s : ByteArray} {k : Nat} {t : ByteArray} (h : standsB s k t = true) : s.extract k (k + t.size) = t := by
  simp only [standsB, decide_eq_true_eq] at h
  apply ba_ext
  rw [← ByteArray.toList_eq, ← ByteArray.toList_eq]
  exact h.2
/-- A token's text stands where it says. -/
theorem tok_text {s : ByteArray} {k : Nat} (hk : k < s.size) (he : (tokenOf s k).2 = 0) : s.extract k (k + (tokenOf s k).1.text.size) = (tokenOf s k).1.text := by
  unfold tokenOf at *
  by_cases h1 : letterB (byteAt s k) = true
  · rw [if_pos h1] at he ⊢
    by_cases h2 : wordEnd s k - k ≤ 32
    · rw [if_pos h2]
      have h3 := wordEnd_le s k (by omega)
      have h4 := wordEnd_ge s k
      simp only [ByteArray.size_extract]
      rw [show k + (min (wordEnd s k) s.size - k) = wordEnd s k by omega]
    · rw [if_neg h2] at he
      simp at he
  · rw [if_neg h1] at he ⊢
    by_cases h2 : digitB (byteAt s k) = true
    · rw [if_pos h2] at he ⊢
      by_cases h3 : numOk (s.extract k (digitEnd s k)) = true
      · rw [if_pos h3]
        have h5 := digitEnd_le s k (by omega)
        have h4 := digitEnd_ge s k
        simp only [ByteArray.size_extract]
        rw [show k + (min (digitEnd s k) s.size - k) = digitEnd s k by omega]
      · rw [if_neg h3] at he
        simp at he
    · rw [if_neg h2] at he ⊢
      rcases h3 : signAt s k signTexts with _ | t
      · rw [h3] at he
        simp [signTok] at he
      · simp only [signTok]
        exact stands_text (List.find?_some h3)
theorem blank_not {c : Int} (h : blankB c = true) : letterB c = false ∧ digitB c = false := by
  simp only [blankB, decide_eq_true_eq] at h
  simp only [letterB, digitB, decide_eq_false_iff_not]
  omega
theorem stands_at {s : ByteArray} {k : Nat} {t : ByteArray} (h : standsB s k t = true) {j : Nat} (hj : j < t.size) : byteAt s (k + j) = byteAt t j := by
  have h1 := stands_text h
  have h2 := stands_size h
  have h3 := byteAt_extract s k (k + t.size) j (by omega) (by omega)
  rw [h1] at h3
  exact h3.symm
theorem stands_of {s : ByteArray} {k : Nat} {t : ByteArray} (h : s.extract k (k + t.size) = t) (hs : k + t.size ≤ s.size) : standsB s k t = true := by
  simp only [standsB, decide_eq_true_eq]
  exact ⟨by omega, by rw [h]⟩
theorem signs_second : ∀ i : Fin 20, (signTexts[i.val]'i.isLt).size = 1 ∨ blankB (byteAt (signTexts[i.val]'i.isLt) 1) = false := by decide
/-- A sign that stands in one text stands in the other one just so, where a blank is behind it. -/
theorem sign_moves {s S : ByteArray} {k q : Nat} {t : ByteArray} (hk : k + t.size ≤ s.size) (hq : q + t.size < S.size) (h : signAt s k signTexts = some t) (ht : S.extract q (q + t.size) = t) (hb : blankB (byteAt S (q + t.size)) = true) : signAt S q signTexts = some t := by
  unfold signAt at h
  rw [List.find?_eq_some_iff_getElem] at h
  obtain ⟨h1, j, hj, hjt, h2⟩ := h
  have hm := signTexts_size t (by rw [← hjt]; exact List.getElem_mem _)
  have e := signAt_hit S q signTexts j hj (fun i hi hij => by
    have h3 := h2 i hij
    have h4 := signTexts_size (signTexts[i]) (List.getElem_mem _)
    rw [Bool.eq_false_iff]
    intro hst
    have hsz := stands_size hst
    by_cases hle : (signTexts[i]).size ≤ t.size
    · have hs : standsB s k (signTexts[i]) = true := by
        apply stands_of _ (by omega)
        apply ba_ext
        apply List.ext_getElem
        · rw [size_list, size_list, ByteArray.size_extract]; omega
        · intro x hx hy
          rw [size_list] at hx hy
          have e1 := byteAt_extract s k (k + (signTexts[i]).size) x (by omega) (by omega)
          have e2 := stands_at h1 (j := x) (by omega)
          have e3 := byteAt_extract S q (q + t.size) x (by omega) (by omega)
          rw [ht] at e3
          have e4 := stands_at hst (j := x) hy
          have e5 : byteAt (s.extract k (k + (signTexts[i]).size)) x = byteAt (signTexts[i]) x := by rw [e1, e2, e3, e4]
          rw [byteAt_lt hx, byteAt_lt hy] at e5
          have e6 : ((s.extract k (k + (signTexts[i]).size))[x]'hx).toNat = ((signTexts[i])[x]'hy).toNat := by omega
          exact UInt8.toNat_inj.1 e6
      rw [hs] at h3
      simp at h3
    · have e4 := stands_at hst (j := 1) (by omega)
      have h5 := signs_second ⟨i, hi⟩
      have e7 : t.size = 1 := by omega
      rw [e7] at hb
      rcases h5 with h5 | h5
      · simp only at h5
        omega
      · have h6 : blankB (byteAt signTexts[i] 1) = false := h5
        rw [← e4, hb] at h6
        simp at h6) (by rw [hjt]; exact stands_of ht (by omega))
  rw [hjt] at e
  exact e
/-- A token is the same one wherever its text stands with a blank behind it. -/
theorem tok_moves {s S : ByteArray} {k q : Nat} (hk : k < s.size) (he : (tokenOf s k).2 = 0) (hq : q + (tokenOf s k).1.text.size < S.size) (ht : S.extract q (q + (tokenOf s k).1.text.size) = (tokenOf s k).1.text) (hb : blankB (byteAt S (q + (tokenOf s k).1.text.size)) = true) :
    tokenOf S q = (⟨(tokenOf s k).1.kind, (tokenOf s k).1.text, (tokenOf s k).1.int, q⟩, 0) := by
  have hsz := tok_size hk he
  have htx := tok_text hk he
  have hbytes : ∀ j, j < (tokenOf s k).1.text.size → byteAt S (q + j) = byteAt s (k + j) := fun j hj => by
    have e1 := byteAt_extract s k (k + (tokenOf s k).1.text.size) j (by omega) (by omega)
    have e2 := byteAt_extract S q (q + (tokenOf s k).1.text.size) j (by omega) (by omega)
    rw [← e1, ← e2, ht, htx]
  have h0 : byteAt S q = byteAt s k := hbytes 0 (by omega)
  have hbn := blank_not hb
  generalize hT : tokenOf s k = T at *
  unfold tokenOf at hT ⊢
  rw [h0]
  by_cases h1 : letterB (byteAt s k) = true
  · rw [if_pos h1] at hT ⊢
    by_cases h2 : wordEnd s k - k ≤ 32
    · rw [if_pos h2] at hT
      subst hT
      simp only at *
      have h3 := wordEnd_le s k (by omega)
      have h4 := wordEnd_ge s k
      have hn : (s.extract k (wordEnd s k)).size = wordEnd s k - k := by rw [ByteArray.size_extract]; omega
      rw [hn] at hq ht hb hbytes hbn hsz htx
      have hw : wordEnd S q = q + (wordEnd s k - k) := wordEnd_run S _ q (by omega) (fun j hj => by
        rw [hbytes j hj]
        exact wordEnd_all s k (k + j) (by omega) (by omega)) hbn
      rw [hw, if_pos (by omega), ht]
    · rw [if_neg h2] at hT
      subst hT
      simp at he
  · rw [if_neg h1] at hT ⊢
    by_cases h2 : digitB (byteAt s k) = true
    · rw [if_pos h2] at hT ⊢
      by_cases h3 : numOk (s.extract k (digitEnd s k)) = true
      · rw [if_pos h3] at hT
        subst hT
        simp only at *
        have h5 := digitEnd_le s k (by omega)
        have h4 := digitEnd_ge s k
        have hn : (s.extract k (digitEnd s k)).size = digitEnd s k - k := by rw [ByteArray.size_extract]; omega
        rw [hn] at hq ht hb hbytes hbn hsz htx
        have hw : digitEnd S q = q + (digitEnd s k - k) := digitEnd_run S _ q (by omega) (fun j hj => by
          rw [hbytes j hj]
          exact digitEnd_all s k (k + j) (by omega) (by omega)) hbn.2
        rw [hw, ht, if_pos h3]
      · rw [if_neg h3] at hT
        subst hT
        simp at he
    · rw [if_neg h2] at hT ⊢
      rcases h3 : signAt s k signTexts with _ | t
      · rw [h3] at hT
        subst hT
        simp [signTok] at he
      · rw [h3] at hT
        subst hT
        simp only [signTok] at *
        rw [sign_moves (s := s) (S := S) (k := k) (q := q) (t := t) (by omega) hq h3 ht hb]
end Go.Proofs.YthbjagmlcemefaaDoor
