/- Two sources and what they have, as plain facts. No program in sight. -/
import Derived.Test.YthbjagmlcemefaaDoorLexScanPlain
import Derived.KernelRfl
namespace Go.Proofs.YthbjagmlcemefaaDoor
def src1 : ByteArray := ⟨#[120, 32, 61, 32, 121, 32, 42, 94, 32, 51, 59, 32, 45, 45, 32, 116, 104, 114, 101, 101]⟩
def src2 : ByteArray := ⟨#[120, 32, 61, 32, 121, 32, 38, 32, 122]⟩
theorem after_skip {s : ByteArray} {k j : Nat} (h : afterTo s (k + 1) = j) (h1 : k < s.size) (h2 : blankB (byteAt s k) = true) : afterTo s k = j := by rw [← afterTo_blank h1 h2]; exact h
theorem line_skip {s : ByteArray} {k j : Nat} (h : lineEnd s (k + 1) = j) (h1 : k < s.size) (h2 : byteAt s k ≠ 10) : lineEnd s k = j := by rw [← lineEnd_step h1 h2]; exact h
theorem name_tok {s : ByteArray} {k : Nat} {t : ByteArray} (h : k < s.size) (hl : letterB (byteAt s k) = true) (e : wordEnd s (k + 1) = k + 1) (ht : s.extract k (k + 1) = t) (hw : wordB t = false) : tokenOf s k = (⟨1, t, 0, k⟩, 0) := by
  have e2 : wordEnd s k = k + 1 := by rw [← wordEnd_step h (Or.inl hl)]; exact e
  rw [tokenOf, if_pos hl, e2, if_pos (by omega), ht, hw]
  rfl
theorem num_tok {s : ByteArray} {k : Nat} {t : ByteArray} {n : Nat} (h : k < s.size) (hl : letterB (byteAt s k) = false) (hd : digitB (byteAt s k) = true) (e : digitEnd s (k + 1) = k + 1) (ht : s.extract k (k + 1) = t) (ho : numOk t = true) (hn : numVal t = n) : tokenOf s k = (⟨2, t, n, k⟩, 0) := by
  have e2 : digitEnd s k = k + 1 := by rw [← digitEnd_step h hd]; exact e
  rw [tokenOf, if_neg (by simp [hl]), if_pos hd, e2, ht, if_pos ho, hn]
/-- The same, by the bytes as they lie. -/
def standsD (s : ByteArray) (k : Nat) (t : ByteArray) : Bool := decide (t.size ≤ s.size - k ∧ (s.extract k (k + t.size)).data.toList = t.data.toList)
theorem signAt_data (s : ByteArray) (k : Nat) (l : List ByteArray) : signAt s k l = l.find? (standsD s k) := by
  have h : standsB s k = standsD s k := by
    funext t
    unfold standsB standsD
    rw [ByteArray.toList_eq, ByteArray.toList_eq]
  unfold signAt
  rw [h]
theorem sign_tok {s : ByteArray} {k : Nat} {o : Option ByteArray} (hl : letterB (byteAt s k) = false) (hd : digitB (byteAt s k) = false) (e : signTexts.find? (standsD s k) = o) : tokenOf s k = signTok o k := by
  rw [tokenOf, if_neg (by simp [hl]), if_neg (by simp [hd]), signAt_data, e]
theorem scan_on {s : ByteArray} {k j : Nat} {acc : List Tok} {t : Tok} {r : List Tok × Nat × Int} (ht : tokenOf s k = (t, 0)) (h : k < s.size) (l : acc.length + 1 < 16384) (a : afterTo s (k + t.text.size) = j) (g : scanFrom s j (acc ++ [t]) = r) : scanFrom s k acc = r := by
  have := scan_step (acc := acc) h (by rw [ht]) l
  rw [ht] at this
  rw [← this]
  simp only
  rw [a]
  exact g
theorem lex1 : lexOf src1 = ([⟨1, ⟨#[120]⟩, 0, 0⟩, ⟨4, ⟨#[61]⟩, 0, 2⟩, ⟨1, ⟨#[121]⟩, 0, 4⟩, ⟨4, ⟨#[42, 94]⟩, 0, 6⟩, ⟨2, ⟨#[51]⟩, 3, 9⟩, ⟨4, ⟨#[59]⟩, 0, 10⟩, ⟨0, ⟨#[]⟩, 0, 20⟩], 0, 0) := by
  have a0 : afterTo src1 0 = 0 := afterTo_here (by decide) (by decide) (by decide)
  have a1 : afterTo src1 1 = 2 := after_skip (afterTo_here (by decide) (by decide) (by decide)) (by decide) (by decide)
  have a3 : afterTo src1 3 = 4 := after_skip (afterTo_here (by decide) (by decide) (by decide)) (by decide) (by decide)
  have a5 : afterTo src1 5 = 6 := after_skip (afterTo_here (by decide) (by decide) (by decide)) (by decide) (by decide)
  have a8 : afterTo src1 8 = 9 := after_skip (afterTo_here (by decide) (by decide) (by decide)) (by decide) (by decide)
  have a10 : afterTo src1 10 = 10 := afterTo_here (by decide) (by decide) (by decide)
  have l12 : lineEnd src1 12 = 20 := line_skip (line_skip (line_skip (line_skip (line_skip (line_skip (line_skip (line_skip (lineEnd_here (by decide)) (by decide) (by decide)) (by decide) (by decide)) (by decide) (by decide)) (by decide) (by decide)) (by decide) (by decide)) (by decide) (by decide)) (by decide) (by decide)) (by decide) (by decide)
  have a11 : afterTo src1 11 = 20 := after_skip (by rw [← afterTo_remark (s := src1) (k := 12) (by decide) (by decide) (by decide), l12]; exact afterTo_end (by decide)) (by decide) (by decide)
  rw [lexOf, if_neg (by decide), a0]
  refine scan_on (name_tok (by decide) (by decide) (wordEnd_here (by decide)) (t := ⟨#[120]⟩) (by rfl) (by decide)) (by decide) (by decide) a1 ?_
  refine scan_on (sign_tok (by decide) (by decide) (o := some ⟨#[61]⟩) (by rfl)) (by decide) (by decide) a3 ?_
  refine scan_on (name_tok (by decide) (by decide) (wordEnd_here (by decide)) (t := ⟨#[121]⟩) (by rfl) (by decide)) (by decide) (by decide) a5 ?_
  refine scan_on (sign_tok (by decide) (by decide) (o := some ⟨#[42, 94]⟩) (by rfl)) (by decide) (by decide) a8 ?_
  refine scan_on (num_tok (by decide) (by decide) (by decide) (digitEnd_here (by decide)) (t := ⟨#[51]⟩) (n := 3) (by rfl) (by decide) (by decide)) (by decide) (by decide) a10 ?_
  refine scan_on (sign_tok (by decide) (by decide) (o := some ⟨#[59]⟩) (by rfl)) (by decide) (by decide) a11 ?_
  exact scan_end (by decide)
theorem lex2 : lexOf src2 = ([], 6, 30) := by
  have a0 : afterTo src2 0 = 0 := afterTo_here (by decide) (by decide) (by decide)
  have a1 : afterTo src2 1 = 2 := after_skip (afterTo_here (by decide) (by decide) (by decide)) (by decide) (by decide)
  have a3 : afterTo src2 3 = 4 := after_skip (afterTo_here (by decide) (by decide) (by decide)) (by decide) (by decide)
  have a5 : afterTo src2 5 = 6 := after_skip (afterTo_here (by decide) (by decide) (by decide)) (by decide) (by decide)
  rw [lexOf, if_neg (by decide), a0]
  refine scan_on (name_tok (by decide) (by decide) (wordEnd_here (by decide)) (t := ⟨#[120]⟩) (by rfl) (by decide)) (by decide) (by decide) a1 ?_
  refine scan_on (sign_tok (by decide) (by decide) (o := some ⟨#[61]⟩) (by rfl)) (by decide) (by decide) a3 ?_
  refine scan_on (name_tok (by decide) (by decide) (wordEnd_here (by decide)) (t := ⟨#[121]⟩) (by rfl) (by decide)) (by decide) (by decide) a5 ?_
  have h : tokenOf src2 6 = signTok none 6 := sign_tok (by decide) (by decide) (by rfl)
  rw [scan_wrong (by decide) (by rw [h]; decide), h]
  rfl
end Go.Proofs.YthbjagmlcemefaaDoor
