/- Whatever blanks stand between the tokens, they are the same, but for their places, as plain facts. No program in sight. -/
import Derived.Test.YtcgfpoaacalfbaaDoorLexMovePlain
namespace Go.Proofs.YtcgfpoaacalfbaaDoor

/-- The blanks that the statement puts between. -/
def blankList : List (List UInt8) := [[32], [10], [9, 32], [13, 10], [32, 45, 45, 32, 120, 10], [32, 45, 45, 10, 45, 45, 121, 32, 122, 10]]
theorem skip1 {s : ByteArray} {k : Nat} (h : k < s.size) (g : blankB (byteAt s k) = true) : afterTo s k = afterTo s (k + 1) := (afterTo_blank h g).symm
theorem skipR {s : ByteArray} {k e : Nat} (h : k + 1 < s.size) (g : byteAt s k = 45) (g1 : byteAt s (k + 1) = 45) (he : lineEnd s k = e) : afterTo s k = afterTo s e := by
  rw [← he]
  exact (afterTo_remark (by omega) (by rw [g]; decide) (by simp only [hyphensB, decide_eq_true_eq]; exact ⟨g, h, g1⟩)).symm
theorem ne10 {s : ByteArray} {k : Nat} {v : Int} (h : byteAt s k = v) (hv : v ≠ 10) : byteAt s k ≠ 10 := by rw [h]; exact hv
/-- Blanks are passed by. -/
theorem after_blanks {s : ByteArray} {pre b rest : List UInt8} (hb : b ∈ blankList) (h : s.data.toList = pre ++ (b ++ rest)) : afterTo s pre.length = afterTo s (pre.length + b.length) := by
  have hsz : s.size = pre.length + (b.length + rest.length) := by rw [← size_list, h]; simp
  have f := fun i hi => byteAt_mid h (i := i) hi
  simp only [blankList, List.mem_cons, List.not_mem_nil, or_false] at hb
  rcases hb with rfl | rfl | rfl | rfl | rfl | rfl
  · have f0 := f 0 (by decide)
    simp at f0 hsz
    exact skip1 (by omega) (by rw [f0]; decide)
  · have f0 := f 0 (by decide)
    simp at f0 hsz
    exact skip1 (by omega) (by rw [f0]; decide)
  · have f0 := f 0 (by decide)
    have f1 := f 1 (by decide)
    simp at f0 f1 hsz
    rw [skip1 (by omega) (by rw [f0]; decide), skip1 (by omega) (by rw [f1]; decide)]
    rfl
  · have f0 := f 0 (by decide)
    have f1 := f 1 (by decide)
    simp at f0 f1 hsz
    rw [skip1 (by omega) (by rw [f0]; decide), skip1 (by omega) (by rw [f1]; decide)]
    rfl
  · have f0 := f 0 (by decide)
    have f1 := f 1 (by decide)
    have f2 := f 2 (by decide)
    have f3 := f 3 (by decide)
    have f4 := f 4 (by decide)
    have f5 := f 5 (by decide)
    simp at f0 f1 f2 f3 f4 f5 hsz
    have l5 : lineEnd s (pre.length + 1) = pre.length + 5 := line_skip (line_skip (line_skip (line_skip (lineEnd_here (Or.inr f5)) (by omega) (ne10 f4 (by decide))) (by omega) (ne10 f3 (by decide))) (by omega) (ne10 f2 (by decide))) (by omega) (ne10 f1 (by decide))
    rw [skip1 (by omega) (by rw [f0]; decide), skipR (by omega) f1 f2 l5, skip1 (by omega) (by rw [f5]; decide)]
    rfl
  · have f0 := f 0 (by decide)
    have f1 := f 1 (by decide)
    have f2 := f 2 (by decide)
    have f3 := f 3 (by decide)
    have f4 := f 4 (by decide)
    have f5 := f 5 (by decide)
    have f6 := f 6 (by decide)
    have f7 := f 7 (by decide)
    have f8 := f 8 (by decide)
    have f9 := f 9 (by decide)
    simp at f0 f1 f2 f3 f4 f5 f6 f7 f8 f9 hsz
    have l3 : lineEnd s (pre.length + 1) = pre.length + 3 := line_skip (line_skip (lineEnd_here (Or.inr f3)) (by omega) (ne10 f2 (by decide))) (by omega) (ne10 f1 (by decide))
    have l9 : lineEnd s (pre.length + 4) = pre.length + 9 := line_skip (line_skip (line_skip (line_skip (line_skip (lineEnd_here (Or.inr f9)) (by omega) (ne10 f8 (by decide))) (by omega) (ne10 f7 (by decide))) (by omega) (ne10 f6 (by decide))) (by omega) (ne10 f5 (by decide))) (by omega) (ne10 f4 (by decide))
    rw [skip1 (by omega) (by rw [f0]; decide), skipR (by omega) f1 f2 l3, skip1 (by omega) (by rw [f3]; decide), skipR (by omega) f4 f5 l9, skip1 (by omega) (by rw [f9]; decide)]
    rfl
theorem blank_head {b : List UInt8} (hb : b ∈ blankList) : ∃ c r, b = c :: r ∧ blankB (c.toNat : Int) = true := by
  simp only [blankList, List.mem_cons, List.not_mem_nil, or_false] at hb
  rcases hb with rfl | rfl | rfl | rfl | rfl | rfl <;> exact ⟨_, _, rfl, by decide⟩
theorem blank_len {b : List UInt8} (hb : b ∈ blankList) : 1 ≤ b.length ∧ b.length ≤ 10 := by
  simp only [blankList, List.mem_cons, List.not_mem_nil, or_false] at hb
  rcases hb with rfl | rfl | rfl | rfl | rfl | rfl <;> decide

theorem signs_blank : ∀ t ∈ signTexts, blankB (byteAt t 0) = false ∧ (byteAt t 0 = 45 → t.size = 1) := by decide
theorem tok_not_blank {s : ByteArray} {k : Nat} (_hk : k < s.size) (he : (tokenOf s k).2 = 0) : blankB (byteAt s k) = false := by
  rw [Bool.eq_false_iff]
  intro hb
  have hn := blank_not hb
  unfold tokenOf at he
  rw [if_neg (by simp [hn.1]), if_neg (by simp [hn.2])] at he
  rcases h3 : signAt s k signTexts with _ | t
  · rw [h3] at he
    simp [signTok] at he
  · have h4 := List.mem_of_find?_eq_some h3
    have h5 := signTexts_size t h4
    have h6 := stands_first (List.find?_some h3) (by omega)
    have h7 := (signs_blank t h4).1
    rw [← h6, hb] at h7
    simp at h7
theorem tok_hyphen {s : ByteArray} {k : Nat} (_hk : k < s.size) (he : (tokenOf s k).2 = 0) (hb : byteAt s k = 45) : (tokenOf s k).1.text.size = 1 := by
  unfold tokenOf at *
  rw [if_neg (by rw [hb]; decide), if_neg (by rw [hb]; decide)] at he ⊢
  rcases h3 : signAt s k signTexts with _ | t
  · rw [h3] at he
    simp [signTok] at he
  · simp only [signTok]
    have h4 := List.mem_of_find?_eq_some h3
    have h5 := signTexts_size t h4
    have h6 := stands_first (List.find?_some h3) (by omega)
    exact (signs_blank t h4).2 (by omega)
/-- A token of a text, at its place. -/
def IsTok (s : ByteArray) (t : Tok) : Prop := t.place < s.size ∧ tokenOf s t.place = (t, 0)
/-- The text that the tokens make with blanks ahead of each. -/
def spread : List (List UInt8 × Tok) → List UInt8
  | [] => []
  | (b, t) :: r => b ++ (t.text.data.toList ++ spread r)
/-- Nothing but the place differs. -/
def Alike (a b : Tok) : Prop := a.kind = b.kind ∧ a.text = b.text ∧ a.int = b.int
/-- What follows a token in the text begins with a blank. -/
theorem spread_head (r : List (List UInt8 × Tok)) (hb : ∀ x ∈ r, x.1 ∈ blankList) : ∃ c y, spread r ++ [10] = c :: y ∧ blankB (c.toNat : Int) = true := by
  cases r with
  | nil => exact ⟨10, [], rfl, by decide⟩
  | cons x r =>
    obtain ⟨c, y, h1, h2⟩ := blank_head (hb x (List.mem_cons_self ..))
    refine ⟨c, y ++ (x.2.text.data.toList ++ spread r) ++ [10], ?_, h2⟩
    show x.1 ++ (x.2.text.data.toList ++ spread r) ++ [10] = _
    rw [h1]
    simp
/-- The tokens of the spread text. -/
theorem spread_scan {src S : ByteArray} (e : Tok) (be : List UInt8) (hbe : be ∈ blankList) (hee : e.text = ⟨#[]⟩) (hek : e.kind = 0) (hei : e.int = 0) (r : List (List UInt8 × Tok)) (pre : List UInt8) (acc : List Tok)
    (hS : S.data.toList = pre ++ (spread r ++ (be ++ [10]))) (hb : ∀ x ∈ r, x.1 ∈ blankList) (ht : ∀ x ∈ r, IsTok src x.2) (hn : acc.length + r.length + 1 ≤ 16384) :
    ∃ l, scanFrom S (afterTo S pre.length) acc = (acc ++ l, 0, 0) ∧ l.length = r.length + 1 ∧ (∀ i (h : i < l.length), Alike l[i] ((r.map (·.2) ++ [e])[i]?.getD e)) ∧ (∀ t ∈ l, pre.length ≤ t.place) ∧ l.Pairwise (fun a b => a.place < b.place) := by
  induction r generalizing pre acc with
  | nil =>
    have h1 : S.data.toList = pre ++ (be ++ [10]) := by simpa [spread] using hS
    have hsz : S.size = pre.length + (be.length + 1) := by rw [← size_list, h1]; simp
    have h2 := after_blanks hbe h1
    have h3 : byteAt S (pre.length + be.length) = 10 := by
      have h4 : S.data.toList = (pre ++ be) ++ ([10] ++ []) := by rw [h1]; simp
      have := byteAt_mid h4 (i := 0) (by decide)
      simpa using this
    have h5 : afterTo S pre.length = S.size := by
      rw [h2, skip1 (by omega) (by rw [h3]; decide), afterTo_end (by omega)]
      omega
    refine ⟨[⟨0, ⟨#[]⟩, 0, S.size⟩], ?_, by simp, ?_, ?_, by simp⟩
    · rw [h5]
      exact scan_end (by omega)
    · intro i hi
      have : i = 0 := by simpa using hi
      subst this
      exact ⟨by simp [hek], by simp [hee], by simp [hei]⟩
    · intro t ht
      simp at ht
      subst ht
      show pre.length ≤ S.size
      omega
  | cons x r ih =>
    obtain ⟨b, t⟩ := x
    have hbb : b ∈ blankList := hb (b, t) (List.mem_cons_self ..)
    obtain ⟨hp, htk⟩ := ht (b, t) (List.mem_cons_self ..)
    simp only at hp htk
    have hS1 : S.data.toList = pre ++ (b ++ (t.text.data.toList ++ (spread r ++ (be ++ [10])))) := by rw [hS]; simp [spread]
    have h1 := after_blanks hbb hS1
    obtain ⟨c, y, hc, hcb⟩ : ∃ c y, spread r ++ (be ++ [10]) = c :: y ∧ blankB (c.toNat : Int) = true := by
      cases r with
      | nil =>
        obtain ⟨c, y, h2, h3⟩ := blank_head hbe
        exact ⟨c, y ++ [10], by simp [spread, h2], h3⟩
      | cons x r =>
        obtain ⟨c, y, h2, h3⟩ := blank_head (hb x (by simp))
        exact ⟨c, y ++ (x.2.text.data.toList ++ spread r) ++ (be ++ [10]), by show (x.1 ++ (x.2.text.data.toList ++ spread r)) ++ (be ++ [10]) = _; rw [h2]; simp, h3⟩
    have hS2 : S.data.toList = (pre ++ b) ++ (t.text.data.toList ++ (c :: y)) := by rw [hS1, hc]; simp
    have hq : (pre ++ b).length = pre.length + b.length := by simp
    have hsz : S.size = (pre ++ b).length + (t.text.size + (y.length + 1)) := by rw [← size_list, hS2]; simp; omega
    have hext := extract_mid hS2
    have hS3 : S.data.toList = ((pre ++ b) ++ t.text.data.toList) ++ ([c] ++ y) := by rw [hS2]; simp
    have hbl : byteAt S ((pre ++ b).length + t.text.size) = (c.toNat : Int) := by
      have h9 := byteAt_mid hS3 (i := 0) (by simp)
      simp at h9
      rw [hq, Nat.add_assoc]
      exact h9
    have hmv := tok_moves (s := src) (S := S) (k := t.place) (q := (pre ++ b).length) hp (by rw [htk]) (by rw [htk]; show (pre ++ b).length + t.text.size < S.size; omega) (by rw [htk]; exact hext) (by rw [htk]; rw [hbl]; exact hcb)
    rw [htk] at hmv
    simp only at hmv
    have hpos := tok_size hp (by rw [htk])
    rw [htk] at hpos
    simp only at hpos
    have hstay : afterTo S ((pre ++ b).length) = (pre ++ b).length := by
      have hno := tok_not_blank (s := S) (k := (pre ++ b).length) (by omega) (by rw [hmv])
      refine afterTo_here (by omega) hno ?_
      rw [Bool.eq_false_iff]
      intro hy
      simp only [hyphensB, decide_eq_true_eq] at hy
      have h1x := tok_hyphen (s := S) (k := (pre ++ b).length) (by omega) (by rw [hmv]) hy.1
      rw [hmv] at h1x
      simp only at h1x
      rw [h1x, hy.2.2] at hbl
      rw [← hbl] at hcb
      exact absurd hcb (by decide)
    have hS4 : S.data.toList = (pre ++ (b ++ t.text.data.toList)) ++ (spread r ++ (be ++ [10])) := by rw [hS1]; simp
    have hl4 : (pre ++ (b ++ t.text.data.toList)).length = (pre ++ b).length + t.text.size := by simp; omega
    obtain ⟨l, i1, i2, i3, i4, i5⟩ := ih (pre ++ (b ++ t.text.data.toList)) (acc ++ [⟨t.kind, t.text, t.int, (pre ++ b).length⟩]) hS4 (fun x hx => hb x (List.mem_cons_of_mem _ hx)) (fun x hx => ht x (List.mem_cons_of_mem _ hx)) (by simp at hn ⊢; omega)
    refine ⟨⟨t.kind, t.text, t.int, (pre ++ b).length⟩ :: l, ?_, by simp [i2], ?_, ?_, ?_⟩
    · rw [h1, ← hq, hstay]
      refine scan_on hmv (by omega) (by simp at hn; omega) (by rw [← hl4]) ?_
      rw [i1]
      simp
    · intro i hi
      cases i with
      | zero => exact ⟨rfl, rfl, rfl⟩
      | succ i =>
        have := i3 i (by simpa using hi)
        simpa using this
    · intro u hu
      simp only [List.mem_cons] at hu
      rcases hu with rfl | hu
      · simp only
        omega
      · have := i4 u hu
        omega
    · rw [List.pairwise_cons]
      refine ⟨fun u hu => ?_, i5⟩
      have := i4 u hu
      simp only
      omega
end Go.Proofs.YtcgfpoaacalfbaaDoor
