/- The document's answer of layer 3: number. -/
import Derived.Test.YtcgfpoaacalfbaaGreatDoorLexNumPlain
import Derived.Test.YtcgfpoaacalfbaaGreatDoorLexAfter
namespace Go.Proofs.YtcgfpoaacalfbaaGreatDoor
open Go.RowKit
attribute [local go_sem] later_size later_cell later_frozen later_setCell later_drew later_drewN later_tape drewN_setCell drewN_alloc drewN_later later_later lt_more lt_more1 lt_more2 lt_more3 lt_more4 lk0_0_1 lk1_0_1 lk2_0_1 lk0_0_2 lk1_0_2 lk2_0_2 lk0_1_2 lk0_0_3 lk1_0_3 lk2_0_3 lk0_1_3 lk0_2_3 lk0_0_4 lk1_0_4 lk2_0_4 lk0_1_4 lk0_2_4 lk0_3_4 lk0_0_5 lk1_0_5 lk2_0_5 lk0_1_5 lk0_2_5 lk0_3_5 lk0_4_5 lk0_0_6 lk1_0_6 lk2_0_6 lk0_1_6 lk0_2_6 lk0_3_6 lk0_4_6 lk0_5_6 lk0_0_7 lk1_0_7 lk2_0_7 lk0_1_7 lk0_2_7 lk0_3_7 lk0_4_7 lk0_5_7 lk0_6_7
theorem num_ret {a b : Int} {c d : Bool} (h : a = b) (k : c = d) : Ending.returned (.tuple #[.int .i64 a, .bool c]) = .returned (.tuple #[.int .i64 b, .bool d]) := by rw [h, k]
set_option maxHeartbeats 1600000 in
theorem number_calls (s : ByteArray) (w : World) (hs : 0 < s.size) (hd : Digits s) : Calls Tryz.prog 37 #[.string s] w fun e w' => e = .returned (.tuple #[.int .i64 (numVal s), .bool (numOk s)]) ∧ w' = w := by
  have HO : Hid (numOk s = decide (s.size ≤ 19 ∧ ¬ (1 < s.size ∧ byteAt s 0 = 48) ∧ numTo s s.size ≤ 9223372036854775807)) := rfl
  have HV : Hid (numVal s = if numOk s = true then numTo s s.size else 0) := rfl
  by_cases h19 : s.size ≤ 19
  · have HZ : Hid (byteAt s 0 = (s[0].toNat : Int)) := byteAt_lt hs
    by_cases hz : 1 < s.size ∧ byteAt s 0 = 48
    · have HF : Hid (numOk s = false) := by rw [Hid, HO.out]; simp [hz]
      obtain ⟨h1, h48⟩ := hz
      rw [HZ.out] at h48
      go_enter Tryz.func37, Tryz.ntmps37
      go_wp2
      go_ret2
      exact ⟨num_ret (by rw [HV.out, HF.out]; simp) HF.out.symm, rfl⟩
    · have HZZ : Hid _ := hz
      have hq19 : decide (19 < (s.size : Int)) = false := by simp; omega
      have hd1 : decide (1 < (s.size : Int)) = false ∨ (decide (1 < (s.size : Int)) = true ∧ ((s[0].toNat : Int) == 48) = false) := by
        rw [HZ.out] at hz
        by_cases h1 : 1 < s.size
        · right
          refine ⟨by simp; omega, beq_false_of_ne fun h => hz ⟨h1, h⟩⟩
        · left
          simp
          omega
      clear hz
      rcases hd1 with hd1 | ⟨hd1, hd48⟩
      all_goals
        go_enter Tryz.func37, Tryz.ntmps37
        go_wp2
        go_loop [4, 5] (fun u i => ∃ k : Nat, k ≤ s.size ∧ i = .int .i64 k ∧ u = .int .u64 (numTo s k)) (fun _ i => s.size - (intOf i).toNat)
        case atStart => exact ⟨0, Nat.zero_le _, rfl, rfl⟩
        case round =>
          obtain ⟨k, hk, rfl, rfl⟩ := hrel
          have hlt10 := numTo_lt hd k hk
          by_cases hlt : k < s.size
          · have h18 := pow18 (k := k) (by omega)
            have hb : numTo s k ≤ 1000000000000000000 := by omega
            have hdig := hd k hlt
            rw [byteAt_lt hlt] at hdig
            simp only [digitB, decide_eq_true_eq] at hdig
            obtain ⟨hd0, hd9⟩ := hdig
            have HS : Hid (numTo s (k + 1) = 10 * numTo s k + (s[k].toNat - 48)) := by rw [Hid, numTo, byteAt_lt hlt]; omega
            clear hlt10 h18
            go_wp2
            go_round
            case rel => exact ⟨k + 1, by omega, by go_num, by rw [HS.out]; exact congrArg (Value.int .u64) (by omega)⟩
            case measure => simp [intOf]; omega
          · have e : k = s.size := by omega
            subst e
            have hb : numTo s s.size ≤ 9999999999999999999 := by have := Nat.pow_le_pow_right (n := 10) (by omega) h19; omega
            by_cases hm : numTo s s.size ≤ 9223372036854775807
            · have HT : Hid (numOk s = true) := by rw [Hid, HO.out]; exact decide_eq_true ⟨h19, HZZ.out, hm⟩
              go_wp2
              go_ret2
              exact ⟨num_ret (by rw [HV.out, HT.out]; simp) HT.out.symm, rfl⟩
            · have HF : Hid (numOk s = false) := by rw [Hid, HO.out]; exact decide_eq_false fun h => hm h.2.2
              go_wp2
              go_ret2
              exact ⟨num_ret (by rw [HV.out, HF.out]; simp) HF.out.symm, rfl⟩
  · have HF : Hid (numOk s = false) := by rw [Hid, HO.out]; simp; omega
    go_enter Tryz.func37, Tryz.ntmps37
    go_wp2
    go_ret2
    exact ⟨num_ret (by rw [HV.out, HF.out]; simp) HF.out.symm, rfl⟩
end Go.Proofs.YtcgfpoaacalfbaaGreatDoor
