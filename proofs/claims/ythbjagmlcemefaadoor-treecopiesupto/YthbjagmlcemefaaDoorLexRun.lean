/- The program's letter, digit, byteOf, oneOrTwo; and how far a text goes on so: run. -/
import Derived.Test.YthbjagmlcemefaaDoorProg
import Derived.Test.YthbjagmlcemefaaDoorLexRow
import Derived.WalkKit
namespace Go.Proofs.YthbjagmlcemefaaDoor
open Go.RowKit
attribute [local go_sem] later_size later_cell later_frozen later_setCell later_drew later_drewN later_tape drewN_setCell drewN_alloc drewN_later later_later lt_more lt_more1 lt_more2 lt_more3 lt_more4 lk0_0_1 lk1_0_1 lk2_0_1 lk0_0_2 lk1_0_2 lk2_0_2 lk0_1_2 lk0_0_3 lk1_0_3 lk2_0_3 lk0_1_3 lk0_2_3 lk0_0_4 lk1_0_4 lk2_0_4 lk0_1_4 lk0_2_4 lk0_3_4 lk0_0_5 lk1_0_5 lk2_0_5 lk0_1_5 lk0_2_5 lk0_3_5 lk0_4_5 lk0_0_6 lk1_0_6 lk2_0_6 lk0_1_6 lk0_2_6 lk0_3_6 lk0_4_6 lk0_5_6 lk0_0_7 lk1_0_7 lk2_0_7 lk0_1_7 lk0_2_7 lk0_3_7 lk0_4_7 lk0_5_7 lk0_6_7
theorem pLetter_calls (c : Int) (w : World) : Calls Tryd.prog 120 #[.int .u8 c] w fun e w' => e = .returned (.bool (letterB c)) ∧ w' = w := by
  have hl : letterB c = decide ((65 ≤ c ∧ c ≤ 90) ∨ (97 ≤ c ∧ c ≤ 122) ∨ c = 95) := rfl
  have HL : Hid _ := hl
  clear hl
  go_enter Tryd.func120, Tryd.ntmps120
  go_wp2
  all_goals
    go_ret
    refine ⟨?_, rfl⟩
    rw [HL.out]
    try (refine congrArg (fun b => Ending.returned (.bool b)) ?_)
    rw [Bool.eq_iff_iff]
    simp
    try omega
theorem pDigit_calls (c : Int) (w : World) : Calls Tryd.prog 119 #[.int .u8 c] w fun e w' => e = .returned (.bool (digitB c)) ∧ w' = w := by
  have hl : digitB c = decide (48 ≤ c ∧ c ≤ 57) := rfl
  have HL : Hid _ := hl
  clear hl
  go_enter Tryd.func119, Tryd.ntmps119
  go_wp2
  all_goals
    go_ret
    refine ⟨?_, rfl⟩
    rw [HL.out]
    try (refine congrArg (fun b => Ending.returned (.bool b)) ?_)
    rw [Bool.eq_iff_iff]
    simp
    try omega
/-- Any byte but 10. -/
def onB (c : Int) : Bool := decide (c ≠ 10)
/-- A letter or a digit. -/
def partB (c : Int) : Bool := letterB c || digitB c
theorem pOn_calls (c : Int) (w : World) : Calls Tryd.prog 117 #[.int .u8 c] w fun e w' => e = .returned (.bool (onB c)) ∧ w' = w := by
  have hl : onB c = decide (c ≠ 10) := rfl
  have HL : Hid _ := hl
  clear hl
  go_enter Tryd.func117, Tryd.ntmps117
  go_wp2
  all_goals
    go_ret
    refine ⟨?_, rfl⟩
    rw [HL.out]
    try (refine congrArg (fun b => Ending.returned (.bool b)) ?_)
    rw [Bool.eq_iff_iff]
    simp
    try omega
theorem pPart_calls (c : Int) (w : World) : Calls Tryd.prog 121 #[.int .u8 c] w fun e w' => e = .returned (.bool (partB c)) ∧ w' = w := by
  have hl : partB c = (letterB c || digitB c) := rfl
  have HL : Hid _ := hl
  clear hl
  rcases h1 : letterB c with _ | _
  · go_enter Tryd.func121, Tryd.ntmps121
    go_wp2_with fail
    refine (pLetter_calls c _).mono ?_
    rintro e w' ⟨rfl, rfl⟩
    rw [h1]
    go_wp2_with fail
    refine (pDigit_calls c _).mono ?_
    rintro e w' ⟨rfl, rfl⟩
    go_wp2_with fail
    go_ret
    exact ⟨bool_ret (by rw [HL.out, h1, Bool.false_or]), rfl⟩
  · go_enter Tryd.func121, Tryd.ntmps121
    go_wp2_with fail
    refine (pLetter_calls c _).mono ?_
    rintro e w' ⟨rfl, rfl⟩
    rw [h1]
    go_wp2_with fail
    go_ret
    exact ⟨bool_ret (by rw [HL.out, h1, Bool.true_or]), rfl⟩
theorem pByte_calls (s : ByteArray) (k : Nat) (w : World) : Calls Tryd.prog 115 #[.string s, .int .i64 k] w fun e w' => e = .returned (.int .u8 (byteAt s k)) ∧ w' = w := by
  by_cases h : k < s.size
  · have HB : Hid (byteAt s k = (s[k].toNat : Int)) := byteAt_lt h
    go_enter Tryd.func115, Tryd.ntmps115
    go_wp2
    go_ret
    exact ⟨by rw [HB.out]; rfl, rfl⟩
  · have HB : Hid (byteAt s k = 0) := by simp [Hid, byteAt, h]
    go_enter Tryd.func115, Tryd.ntmps115
    go_wp2
    go_ret
    exact ⟨by rw [HB.out]; rfl, rfl⟩
def twoIf (b : Bool) : Int := if b = true then 2 else 1
theorem pTwo_calls (b : Bool) (w : World) : Calls Tryd.prog 118 #[.bool b] w fun e w' => e = .returned (.int .i64 (twoIf b)) ∧ w' = w := by
  cases b
  · go_enter Tryd.func118, Tryd.ntmps118
    go_wp2
    go_ret
    exact ⟨rfl, rfl⟩
  · go_enter Tryd.func118, Tryd.ntmps118
    go_wp2
    go_ret
    exact ⟨rfl, rfl⟩
theorem lineEnd_on {s : ByteArray} {k : Nat} (h : k < s.size) (g : onB (byteAt s k) = true) : lineEnd s (k + 1) = lineEnd s k := lineEnd_step h (by simpa [onB] using g)
theorem lineEnd_off {s : ByteArray} {k : Nat} (h : ¬ k < s.size ∨ onB (byteAt s k) = false) : lineEnd s k = k := lineEnd_here (h.elim Or.inl fun g => Or.inr (by simpa [onB] using g))
theorem wordEnd_on {s : ByteArray} {k : Nat} (h : k < s.size) (g : partB (byteAt s k) = true) : wordEnd s (k + 1) = wordEnd s k := wordEnd_step h (by simpa [partB] using g)
theorem wordEnd_off {s : ByteArray} {k : Nat} (h : ¬ k < s.size ∨ partB (byteAt s k) = false) : wordEnd s k = k := wordEnd_here (h.elim Or.inl fun g => Or.inr (by simpa [partB] using g))
theorem digitEnd_on {s : ByteArray} {k : Nat} (h : k < s.size) (g : digitB (byteAt s k) = true) : digitEnd s (k + 1) = digitEnd s k := digitEnd_step h g
theorem digitEnd_off {s : ByteArray} {k : Nat} (h : ¬ k < s.size ∨ digitB (byteAt s k) = false) : digitEnd s k = k := digitEnd_here h
set_option maxHeartbeats 1600000 in
theorem run1_calls (s : ByteArray) (w : World) (hs : s.size ≤ 1048576) : Calls Tryd.prog 116 #[.string s, .func (.func 117) #[] #[]] w fun e w' => e = .returned (.int .i64 (lineEnd s 0)) ∧ w' = w := by
  go_enter Tryd.func116, Tryd.ntmps116
  go_wp2
  go_loop [5] (fun i => ∃ k : Nat, k ≤ s.size ∧ i = .int .i64 k ∧ Hid (lineEnd s k = lineEnd s 0)) (fun i => s.size - (intOf i).toNat)
  case atStart => exact ⟨0, Nat.zero_le _, rfl, rfl⟩
  case round =>
    obtain ⟨k, hk, rfl, HK⟩ := hrel
    by_cases hlt : k < s.size
    · have HB : Hid (byteAt s k = (s[k].toNat : Int)) := byteAt_lt hlt
      rcases hd : onB (s[k].toNat : Int) with _ | _
      · have HJ : Hid (lineEnd s 0 = k) := by rw [Hid, ← HK.out]; exact lineEnd_off (Or.inr (by rw [HB.out]; exact hd))
        go_wp2_with fail
        refine (pOn_calls _ _).mono ?_
        rintro e w' ⟨rfl, rfl⟩
        rw [hd]
        go_wp2_with fail
        go_ret
        exact ⟨by rw [HJ.out]; rfl, rfl⟩
      · have HD : Hid _ := hd
        go_wp2_with fail
        refine (pOn_calls _ _).mono ?_
        rintro e w' ⟨rfl, rfl⟩
        rw [hd]
        go_wp2_with fail
        go_round
        case rel => exact ⟨k + 1, by omega, by go_num, by rw [Hid, ← HK.out]; exact lineEnd_on hlt (by rw [HB.out]; exact HD.out)⟩
        case measure => simp [intOf]; omega
    · have HJ : Hid (lineEnd s 0 = k) := by rw [Hid, ← HK.out]; exact lineEnd_off (Or.inl hlt)
      go_wp2_with fail
      go_ret
      exact ⟨by rw [HJ.out]; rfl, rfl⟩
set_option maxHeartbeats 1600000 in
theorem run2_calls (s : ByteArray) (w : World) (hs : s.size ≤ 1048576) : Calls Tryd.prog 116 #[.string s, .func (.func 119) #[] #[]] w fun e w' => e = .returned (.int .i64 (digitEnd s 0)) ∧ w' = w := by
  go_enter Tryd.func116, Tryd.ntmps116
  go_wp2
  go_loop [5] (fun i => ∃ k : Nat, k ≤ s.size ∧ i = .int .i64 k ∧ Hid (digitEnd s k = digitEnd s 0)) (fun i => s.size - (intOf i).toNat)
  case atStart => exact ⟨0, Nat.zero_le _, rfl, rfl⟩
  case round =>
    obtain ⟨k, hk, rfl, HK⟩ := hrel
    by_cases hlt : k < s.size
    · have HB : Hid (byteAt s k = (s[k].toNat : Int)) := byteAt_lt hlt
      rcases hd : digitB (s[k].toNat : Int) with _ | _
      · have HJ : Hid (digitEnd s 0 = k) := by rw [Hid, ← HK.out]; exact digitEnd_off (Or.inr (by rw [HB.out]; exact hd))
        go_wp2_with fail
        refine (pDigit_calls _ _).mono ?_
        rintro e w' ⟨rfl, rfl⟩
        rw [hd]
        go_wp2_with fail
        go_ret
        exact ⟨by rw [HJ.out]; rfl, rfl⟩
      · have HD : Hid _ := hd
        go_wp2_with fail
        refine (pDigit_calls _ _).mono ?_
        rintro e w' ⟨rfl, rfl⟩
        rw [hd]
        go_wp2_with fail
        go_round
        case rel => exact ⟨k + 1, by omega, by go_num, by rw [Hid, ← HK.out]; exact digitEnd_on hlt (by rw [HB.out]; exact HD.out)⟩
        case measure => simp [intOf]; omega
    · have HJ : Hid (digitEnd s 0 = k) := by rw [Hid, ← HK.out]; exact digitEnd_off (Or.inl hlt)
      go_wp2_with fail
      go_ret
      exact ⟨by rw [HJ.out]; rfl, rfl⟩
set_option maxHeartbeats 1600000 in
theorem run3_calls (s : ByteArray) (w : World) (hs : s.size ≤ 1048576) : Calls Tryd.prog 116 #[.string s, .func (.func 121) #[] #[]] w fun e w' => e = .returned (.int .i64 (wordEnd s 0)) ∧ w' = w := by
  go_enter Tryd.func116, Tryd.ntmps116
  go_wp2
  go_loop [5] (fun i => ∃ k : Nat, k ≤ s.size ∧ i = .int .i64 k ∧ Hid (wordEnd s k = wordEnd s 0)) (fun i => s.size - (intOf i).toNat)
  case atStart => exact ⟨0, Nat.zero_le _, rfl, rfl⟩
  case round =>
    obtain ⟨k, hk, rfl, HK⟩ := hrel
    by_cases hlt : k < s.size
    · have HB : Hid (byteAt s k = (s[k].toNat : Int)) := byteAt_lt hlt
      rcases hd : partB (s[k].toNat : Int) with _ | _
      · have HJ : Hid (wordEnd s 0 = k) := by rw [Hid, ← HK.out]; exact wordEnd_off (Or.inr (by rw [HB.out]; exact hd))
        go_wp2_with fail
        refine (pPart_calls _ _).mono ?_
        rintro e w' ⟨rfl, rfl⟩
        rw [hd]
        go_wp2_with fail
        go_ret
        exact ⟨by rw [HJ.out]; rfl, rfl⟩
      · have HD : Hid _ := hd
        go_wp2_with fail
        refine (pPart_calls _ _).mono ?_
        rintro e w' ⟨rfl, rfl⟩
        rw [hd]
        go_wp2_with fail
        go_round
        case rel => exact ⟨k + 1, by omega, by go_num, by rw [Hid, ← HK.out]; exact wordEnd_on hlt (by rw [HB.out]; exact HD.out)⟩
        case measure => simp [intOf]; omega
    · have HJ : Hid (wordEnd s 0 = k) := by rw [Hid, ← HK.out]; exact wordEnd_off (Or.inl hlt)
      go_wp2_with fail
      go_ret
      exact ⟨by rw [HJ.out]; rfl, rfl⟩
end Go.Proofs.YthbjagmlcemefaaDoor
