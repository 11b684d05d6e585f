/- The document's answer of layer 3: Letter, Digit. -/
import Derived.Test.YthbgnpkgglbhjaaGreatDoorProg
import Derived.Test.YthbgnpkgglbhjaaGreatDoorLexPlain
import Derived.WalkKit
namespace Go.Proofs.YthbgnpkgglbhjaaGreatDoor
open Go.RowKit
attribute [local go_sem] later_size later_cell later_frozen later_setCell later_drew later_drewN later_tape drewN_setCell drewN_alloc drewN_later later_later lt_more lt_more1 lt_more2 lt_more3 lt_more4 lk0_0_1 lk1_0_1 lk2_0_1 lk0_0_2 lk1_0_2 lk2_0_2 lk0_1_2 lk0_0_3 lk1_0_3 lk2_0_3 lk0_1_3 lk0_2_3 lk0_0_4 lk1_0_4 lk2_0_4 lk0_1_4 lk0_2_4 lk0_3_4 lk0_0_5 lk1_0_5 lk2_0_5 lk0_1_5 lk0_2_5 lk0_3_5 lk0_4_5 lk0_0_6 lk1_0_6 lk2_0_6 lk0_1_6 lk0_2_6 lk0_3_6 lk0_4_6 lk0_5_6 lk0_0_7 lk1_0_7 lk2_0_7 lk0_1_7 lk0_2_7 lk0_3_7 lk0_4_7 lk0_5_7 lk0_6_7
theorem letter_calls (c : Int) (w : World) : Calls Tryz.prog 45 #[.int .u8 c] w fun e w' => e = .returned (.bool (letterB c)) ∧ w' = w := by
  have hl : letterB c = decide ((65 ≤ c ∧ c ≤ 90) ∨ (97 ≤ c ∧ c ≤ 122) ∨ c = 95) := rfl
  have HL : Hid _ := hl
  clear hl
  go_enter Tryz.func45, Tryz.ntmps45
  go_wp2
  all_goals
    go_ret
    refine ⟨?_, rfl⟩
    rw [HL.out]
    try (refine congrArg (fun b => Ending.returned (.bool b)) ?_)
    rw [Bool.eq_iff_iff]
    simp
    try omega
theorem digit_calls (c : Int) (w : World) : Calls Tryz.prog 46 #[.int .u8 c] w fun e w' => e = .returned (.bool (digitB c)) ∧ w' = w := by
  have hl : digitB c = decide (48 ≤ c ∧ c ≤ 57) := rfl
  have HL : Hid _ := hl
  clear hl
  go_enter Tryz.func46, Tryz.ntmps46
  go_wp2
  all_goals
    go_ret
    refine ⟨?_, rfl⟩
    rw [HL.out]
    try (refine congrArg (fun b => Ending.returned (.bool b)) ?_)
    rw [Bool.eq_iff_iff]
    simp
    try omega
end Go.Proofs.YthbgnpkgglbhjaaGreatDoor
