/- The document's answer of layer 3: Name. -/
import Derived.Test.YthbgnpkgglbhjaaGreatDoorLexWord
namespace Go.Proofs.YthbgnpkgglbhjaaGreatDoor
open Go.RowKit
attribute [local go_sem] later_size later_cell later_frozen later_setCell later_drew later_drewN later_tape drewN_setCell drewN_alloc drewN_later later_later lt_more lt_more1 lt_more2 lt_more3 lt_more4 lk0_0_1 lk1_0_1 lk2_0_1 lk0_0_2 lk1_0_2 lk2_0_2 lk0_1_2 lk0_0_3 lk1_0_3 lk2_0_3 lk0_1_3 lk0_2_3 lk0_0_4 lk1_0_4 lk2_0_4 lk0_1_4 lk0_2_4 lk0_3_4 lk0_0_5 lk1_0_5 lk2_0_5 lk0_1_5 lk0_2_5 lk0_3_5 lk0_4_5 lk0_0_6 lk1_0_6 lk2_0_6 lk0_1_6 lk0_2_6 lk0_3_6 lk0_4_6 lk0_5_6 lk0_0_7 lk1_0_7 lk2_0_7 lk0_1_7 lk0_2_7 lk0_3_7 lk0_4_7 lk0_5_7 lk0_6_7
theorem toList_len (s : ByteArray) : s.toList.length = s.size := by
  rw [ByteArray.toList_eq, Array.length_toList]
  rfl
theorem toList_ne {s : ByteArray} (h : 0 < s.size) : s.toList.isEmpty = false := by
  rw [List.isEmpty_eq_false_iff]
  intro e
  have := toList_len s
  rw [e] at this
  simp at this
  omega
theorem toList_nil {s : ByteArray} (h : ¬ 0 < s.size) : s.toList.isEmpty = true := by
  rw [List.isEmpty_iff]
  apply List.eq_nil_of_length_eq_zero
  rw [toList_len]
  omega
set_option maxHeartbeats 1600000 in
theorem name_calls (s : ByteArray) (w : World) (hs : s.size ≤ 1048576) : Calls Tryz.prog 77 #[.string s] w fun e w' => e = .returned (.bool (nameB s)) ∧ Gr w w' := by
  have HB : Hid (nameB s = decide (0 < s.size ∧ s.size ≤ 32 ∧ letterB (byteAt s 0) = true ∧ wordB s = false ∧ plainB s s.size = true)) := rfl
  by_cases h0 : 0 < s.size
  · have hne := toList_ne h0
    by_cases h32 : s.size ≤ 32
    · have hd32 : decide (32 < (s.size : Int)) = false := by simp; omega
      have HZ : Hid (byteAt s 0 = (s[0].toNat : Int)) := byteAt_lt h0
      rcases hl : letterB (s[0].toNat : Int) with _ | _
      · go_enter Tryz.func77, Tryz.ntmps77
        go_wp2_with fail
        refine (letter_calls _ _).mono ?_
        rintro e w' ⟨rfl, rfl⟩
        go_wp2_with fail
        go_ret
        refine ⟨bool_ret ?_, (by repeat (first | (with_reducible exact Gr.refl _) | (with_reducible refine Gr.alloc ?_ _) | (with_reducible refine Gr.drewN ?_ _) | (with_reducible refine Gr.drew ?_) | (with_reducible refine Gr.later ?_ _ _)))⟩
        rw [HB.out, HZ.out, hl]
        simp
      · rcases hw : wordB s with _ | _
        · go_enter Tryz.func77, Tryz.ntmps77
          go_wp2_with fail
          refine (letter_calls _ _).mono ?_
          rintro e w' ⟨rfl, rfl⟩
          go_wp2_with fail
          refine (word_calls _ _).mono ?_
          rintro e w' ⟨rfl, rfl⟩
          go_wp2_with fail
          have HL : Hid _ := hl
          have HW : Hid _ := hw
          clear hl hw
          go_loop [3] (fun i => ∃ k : Nat, k ≤ s.size ∧ i = .int .i64 k ∧ Hid (plainB s k = true)) (fun i => s.size - (intOf i).toNat)
          case atStart => exact ⟨0, Nat.zero_le _, rfl, plainB_zero s⟩
          case round =>
            obtain ⟨k, hk, rfl, HP⟩ := hrel
            by_cases hlt : k < s.size
            · have HK : Hid (byteAt s k = (s[k].toNat : Int)) := byteAt_lt hlt
              rcases hl : letterB (s[k].toNat : Int) with _ | _
              · rcases hd : digitB (s[k].toNat : Int) with _ | _
                · go_wp2_with fail
                  refine (letter_calls _ _).mono ?_
                  rintro e w' ⟨rfl, rfl⟩
                  go_wp2_with fail
                  refine (digit_calls _ _).mono ?_
                  rintro e w' ⟨rfl, rfl⟩
                  go_wp2_with fail
                  go_ret
                  refine ⟨bool_ret ?_, (by repeat (first | (with_reducible exact Gr.refl _) | (with_reducible refine Gr.alloc ?_ _) | (with_reducible refine Gr.drewN ?_ _) | (with_reducible refine Gr.drew ?_) | (with_reducible refine Gr.later ?_ _ _)))⟩
                  rw [HB.out, plainB_not s k s.size hlt (by rw [HK.out]; exact hl) (by rw [HK.out]; exact hd)]
                  simp
                · go_wp2_with fail
                  refine (letter_calls _ _).mono ?_
                  rintro e w' ⟨rfl, rfl⟩
                  go_wp2_with fail
                  refine (digit_calls _ _).mono ?_
                  rintro e w' ⟨rfl, rfl⟩
                  go_wp2_with fail
                  go_round
                  case rel => exact ⟨k + 1, by omega, by go_num, plainB_succ s k HP.out (Or.inr (by rw [HK.out]; exact hd))⟩
                  case measure => simp [intOf]; omega
              · go_wp2_with fail
                refine (letter_calls _ _).mono ?_
                rintro e w' ⟨rfl, rfl⟩
                go_wp2_with fail
                go_round
                case rel => exact ⟨k + 1, by omega, by go_num, plainB_succ s k HP.out (Or.inl (by rw [HK.out]; exact hl))⟩
                case measure => simp [intOf]; omega
            · go_wp2
              go_ret
              have e : k = s.size := by omega
              have hp := HP.out
              rw [e] at hp
              refine ⟨bool_ret ?_, (by repeat (first | (with_reducible exact Gr.refl _) | (with_reducible refine Gr.alloc ?_ _) | (with_reducible refine Gr.drewN ?_ _) | (with_reducible refine Gr.drew ?_) | (with_reducible refine Gr.later ?_ _ _)))⟩
              rw [HB.out, HZ.out, HL.out, HW.out, hp]
              simp
              omega
        · go_enter Tryz.func77, Tryz.ntmps77
          go_wp2_with fail
          refine (letter_calls _ _).mono ?_
          rintro e w' ⟨rfl, rfl⟩
          go_wp2_with fail
          refine (word_calls _ _).mono ?_
          rintro e w' ⟨rfl, rfl⟩
          go_wp2_with fail
          go_ret
          refine ⟨bool_ret ?_, (by repeat (first | (with_reducible exact Gr.refl _) | (with_reducible refine Gr.alloc ?_ _) | (with_reducible refine Gr.drewN ?_ _) | (with_reducible refine Gr.drew ?_) | (with_reducible refine Gr.later ?_ _ _)))⟩
          rw [HB.out, hw]
          simp
    · have hd32 : decide (32 < (s.size : Int)) = true := by simp; omega
      go_enter Tryz.func77, Tryz.ntmps77
      go_wp2_with fail
      go_ret
      refine ⟨bool_ret ?_, (by repeat (first | (with_reducible exact Gr.refl _) | (with_reducible refine Gr.alloc ?_ _) | (with_reducible refine Gr.drewN ?_ _) | (with_reducible refine Gr.drew ?_) | (with_reducible refine Gr.later ?_ _ _)))⟩
      rw [HB.out]
      simp
      omega
  · have hnil := toList_nil h0
    go_enter Tryz.func77, Tryz.ntmps77
    go_wp2_with fail
    go_ret
    refine ⟨bool_ret ?_, (by repeat (first | (with_reducible exact Gr.refl _) | (with_reducible refine Gr.alloc ?_ _) | (with_reducible refine Gr.drewN ?_ _) | (with_reducible refine Gr.drew ?_) | (with_reducible refine Gr.later ?_ _ _)))⟩
    rw [HB.out]
    simp
    omega
end Go.Proofs.YthbgnpkgglbhjaaGreatDoor
