/- What the library's reader of numbers answers at digits alone. No program in sight. -/
import Derived.Test.YthbgnpkgglbhjaaGreatDoorLexSome
import Derived.Lib.ParseIntB
namespace Go.Proofs.YthbgnpkgglbhjaaGreatDoor
theorem numTo_up (s : ByteArray) (k : Nat) : ∀ d, numTo s k ≤ numTo s (k + d)
  | 0 => Nat.le_refl _
  | d + 1 => by
    have h := numTo_up s k d
    have e : numTo s (k + (d + 1)) = 10 * numTo s (k + d) + (byteAt s (k + d) - 48).toNat := rfl
    omega
theorem numTo_mono (s : ByteArray) {k n : Nat} (h : k ≤ n) : numTo s k ≤ numTo s n := by
  have := numTo_up s k (n - k)
  rw [show k + (n - k) = n by omega] at this
  exact this
theorem byte_toNat {s : ByteArray} {k : Nat} (h : k < s.size) (hd : digitB (byteAt s k) = true) : 48 ≤ s[k].toNat ∧ s[k].toNat ≤ 57 ∧ (byteAt s k - 48).toNat = s[k].toNat - 48 := by
  simp only [digitB, decide_eq_true_eq] at hd
  rw [byteAt_lt h] at hd ⊢
  omega
theorem drop_cons {s : ByteArray} {k : Nat} (h : k < s.size) : s.data.toList.drop k = s[k] :: s.data.toList.drop (k + 1) := by
  have h' : k < s.data.toList.length := by simpa using h
  rw [List.drop_eq_getElem_cons h']
  rfl
theorem parseU (s : ByteArray) (hd : Digits s) (k : Nat) (hk : k ≤ s.size) (hb : numTo s k ≤ 18446744073709551615) : Lib.parseUintM 18446744073709551615 (numTo s k) (s.data.toList.drop k) = if numTo s s.size ≤ 18446744073709551615 then .ok (numTo s s.size) else .range := by
  induction hm : s.size - k using Nat.strongRecOn generalizing k with
  | ind m ih =>
    by_cases h : k < s.size
    · obtain ⟨h1, h2, h3⟩ := byte_toNat h (hd k h)
      have e : numTo s (k + 1) = numTo s k * 10 + (s[k].toNat - 48) := by
        show 10 * numTo s k + (byteAt s k - 48).toNat = _
        omega
      have hmono := numTo_mono s (show k + 1 ≤ s.size by omega)
      rw [drop_cons h, Lib.parseUintM, if_pos ⟨h1, h2⟩]
      by_cases h4 : 1844674407370955162 ≤ numTo s k
      · rw [if_pos h4, if_neg (by omega)]
      · rw [if_neg h4]
        by_cases h5 : 18446744073709551615 < numTo s k * 10 + (s[k].toNat - 48)
        · rw [if_pos h5, if_neg (by omega)]
        · rw [if_neg h5, ← e]
          exact ih (s.size - (k + 1)) (by omega) (k + 1) (by omega) (by omega) rfl
    · obtain rfl : k = s.size := by omega
      rw [List.drop_eq_nil_of_le (by simp), Lib.parseUintM, if_pos hb]
theorem parseI_ok (c : UInt8) (r : List UInt8) (h1 : ¬ c.toNat = 43) (h2 : ¬ c.toNat = 45) (u : Nat) (h : Lib.parseUintB 64 (c :: r) = .ok u) : Lib.parseIntB 64 (c :: r) = if 9223372036854775808 ≤ u then .range else .ok ((u : Nat) : Int) := by
  simp only [Lib.parseIntB, h1, h2, or_self, if_false, h, not_false_eq_true, true_and, false_and]
theorem parseI_range (c : UInt8) (r : List UInt8) (h1 : ¬ c.toNat = 43) (h2 : ¬ c.toNat = 45) (h : Lib.parseUintB 64 (c :: r) = .range) : Lib.parseIntB 64 (c :: r) = .range := by
  simp only [Lib.parseIntB, h1, h2, or_self, if_false, h]
theorem parseI (s : ByteArray) (hd : Digits s) (h0 : 0 < s.size) : Lib.parseIntB 64 s.data.toList = if numTo s s.size ≤ 9223372036854775807 then .ok ((numTo s s.size : Nat) : Int) else .range := by
  have hu := parseU s hd 0 (Nat.zero_le _) (Nat.zero_le _)
  obtain ⟨h1, h2, -⟩ := byte_toNat h0 (hd 0 h0)
  have hc := drop_cons h0
  rw [List.drop_zero] at hu hc
  have hx : Lib.parseUintB 64 s.data.toList = if numTo s s.size ≤ 18446744073709551615 then .ok (numTo s s.size) else .range := by
    unfold Lib.parseUintB
    rw [if_neg (by rw [hc]; simp)]
    exact hu
  generalize s.data.toList.drop 1 = r at hc
  rw [hc] at hx ⊢
  by_cases h3 : numTo s s.size ≤ 18446744073709551615
  · rw [if_pos h3] at hx
    rw [parseI_ok _ _ (by omega) (by omega) _ hx]
    by_cases h4 : numTo s s.size ≤ 9223372036854775807
    · rw [if_pos h4, if_neg (by omega)]
    · rw [if_neg h4, if_pos (by omega)]
  · rw [if_neg h3] at hx
    rw [parseI_range _ _ (by omega) (by omega) hx, if_neg (by omega)]
theorem numTo_pow {s : ByteArray} (hd : Digits s) (h : byteAt s 0 ≠ 48) : ∀ k, k + 1 ≤ s.size → 10 ^ k ≤ numTo s (k + 1)
  | 0, hk => by
    have h1 := hd 0 (by omega)
    simp only [digitB, decide_eq_true_eq] at h1
    show 1 ≤ 10 * 0 + (byteAt s 0 - 48).toNat
    omega
  | k + 1, hk => by
    have h1 := numTo_pow hd h k (by omega)
    have e : numTo s (k + 1 + 1) = 10 * numTo s (k + 1) + (byteAt s (k + 1) - 48).toNat := rfl
    rw [Nat.pow_succ]
    omega
/-- A number is told just where the reader has one, and it does not begin with a 0 that is not all. -/
theorem numOk_iff {s : ByteArray} (hd : Digits s) : numOk s = decide (numTo s s.size ≤ 9223372036854775807 ∧ ¬ (1 < s.size ∧ byteAt s 0 = 48)) := by
  unfold numOk
  rw [decide_eq_decide]
  constructor
  · rintro ⟨-, h1, h2⟩
    exact ⟨h2, h1⟩
  · rintro ⟨h2, h1⟩
    refine ⟨?_, h1, h2⟩
    rcases Nat.lt_or_ge 19 s.size with h3 | h3
    · exfalso
      have h4 := numTo_pow hd (fun e => h1 ⟨by omega, e⟩) 19 (by omega)
      have h5 := numTo_mono s (show 20 ≤ s.size by omega)
      rw [show 19 + 1 = 20 from rfl] at h4
      have h6 : (10 ^ 19 : Nat) = 10000000000000000000 := by decide
      omega
    · exact h3
end Go.Proofs.YthbgnpkgglbhjaaGreatDoor
