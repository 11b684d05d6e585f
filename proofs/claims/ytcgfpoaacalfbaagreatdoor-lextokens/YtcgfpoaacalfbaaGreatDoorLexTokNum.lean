/- The document's answer of layer 3: token, where a digit stands. -/
import Derived.Test.YtcgfpoaacalfbaaGreatDoorLexTokName
namespace Go.Proofs.YtcgfpoaacalfbaaGreatDoor
open Go.RowKit
attribute [local go_sem] later_size later_cell later_frozen later_setCell later_drew later_drewN later_tape drewN_setCell drewN_alloc drewN_later later_later lt_more lt_more1 lt_more2 lt_more3 lt_more4 lk0_0_1 lk1_0_1 lk2_0_1 lk0_0_2 lk1_0_2 lk2_0_2 lk0_1_2 lk0_0_3 lk1_0_3 lk2_0_3 lk0_1_3 lk0_2_3 lk0_0_4 lk1_0_4 lk2_0_4 lk0_1_4 lk0_2_4 lk0_3_4 lk0_0_5 lk1_0_5 lk2_0_5 lk0_1_5 lk0_2_5 lk0_3_5 lk0_4_5 lk0_0_6 lk1_0_6 lk2_0_6 lk0_1_6 lk0_2_6 lk0_3_6 lk0_4_6 lk0_5_6 lk0_0_7 lk1_0_7 lk2_0_7 lk0_1_7 lk0_2_7 lk0_3_7 lk0_4_7 lk0_5_7 lk0_6_7
set_option maxHeartbeats 3200000 in
theorem token_num (s : ByteArray) (k : Nat) (w : World) (hs : s.size ≤ 1048576) (hk : k < s.size) (hl : letterB (byteAt s k) = false) (hd : digitB (byteAt s k) = true) :
    Calls Tryz.prog 19 #[.string s, .int .i64 k] w fun e w' => e = .returned (.tuple #[tokVal (tokenOf s k).1, .int .i64 (tokenOf s k).2]) ∧ Gr w w' := by
  have HT : Hid (tokenOf s k = if numOk (s.extract k (digitEnd s k)) = true then (⟨2, s.extract k (digitEnd s k), numVal (s.extract k (digitEnd s k)), k⟩, 0) else (⟨0, ⟨#[]⟩, 0, 0⟩, 31)) := by rw [Hid, tokenOf, if_neg (by simp [hl]), if_pos hd]
  have hgt : k < digitEnd s k := by
    rw [← digitEnd_step hk hd]
    have := digitEnd_ge s (k + 1)
    omega
  have HD : Hid (Digits (s.extract k (digitEnd s k))) := digits_extract s k (by omega)
  rw [byteAt_lt hk] at hl hd
  go_enter Tryz.func19, Tryz.ntmps19
  go_wp2_with fail
  refine (letter_calls _ _).mono ?_
  rintro e w' ⟨rfl, rfl⟩
  go_wp2_with fail
  refine (digit_calls _ _).mono ?_
  rintro e w' ⟨rfl, rfl⟩
  go_wp2_with fail
  have HLK : Hid _ := hl
  have HDK : Hid _ := hd
  clear hl hd
  go_loop [6] (fun i => ∃ j : Nat, k ≤ j ∧ j ≤ s.size ∧ i = .int .i64 j ∧ Hid (digitEnd s j = digitEnd s k)) (fun i => s.size - (intOf i).toNat)
  case atStart => exact ⟨k, Nat.le_refl _, by omega, rfl, rfl⟩
  case round =>
    obtain ⟨j, hkj, hj, rfl, HJ⟩ := hrel
    by_cases hlt : j < s.size
    · have HB : Hid (byteAt s j = (s[j].toNat : Int)) := byteAt_lt hlt
      rcases hd : digitB (s[j].toNat : Int) with _ | _
      · have HE : Hid (digitEnd s k = j) := by rw [Hid, ← HJ.out]; exact digitEnd_here (Or.inr (by rw [HB.out]; exact hd))
        have hjk : k < j := by have := HE.out; omega
        rw [HE.out] at HD
        have hsz : 0 < (s.extract k j).size := by rw [ByteArray.size_extract]; omega
        rcases ho : numOk (s.extract k j) with _ | _
        all_goals
          go_wp2_with fail
          refine (digit_calls _ _).mono ?_
          rintro e w' ⟨rfl, rfl⟩
          go_wp2_with fail
          refine (number_calls _ _ hsz HD.out).mono ?_
          rintro e w' ⟨rfl, rfl⟩
          go_wp2_with fail
          refine bodyPost_ret (by simp [results, Tryz.results19, go_sem, *]; try rfl) rfl ?_
          refine ⟨tok_ret ?_ ?_, (by repeat (first | (with_reducible exact Gr.refl _) | (with_reducible refine Gr.alloc ?_ _) | (with_reducible refine Gr.drewN ?_ _) | (with_reducible refine Gr.drew ?_) | (with_reducible refine Gr.later ?_ _ _)))⟩
          · rw [HT.out, HE.out, ho]; rfl
          · rw [HT.out, HE.out, ho]; rfl
      · go_wp2_with fail
        refine (digit_calls _ _).mono ?_
        rintro e w' ⟨rfl, rfl⟩
        go_wp2_with fail
        go_round
        case rel => exact ⟨j + 1, by omega, by omega, by go_num, by rw [Hid, ← HJ.out]; exact digitEnd_step hlt (by rw [HB.out]; exact hd)⟩
        case measure => simp [intOf]; omega
    · have HE : Hid (digitEnd s k = j) := by rw [Hid, ← HJ.out]; exact digitEnd_here (Or.inl hlt)
      have hjk : k < j := by have := HE.out; omega
      rw [HE.out] at HD
      have hsz : 0 < (s.extract k j).size := by rw [ByteArray.size_extract]; omega
      rcases ho : numOk (s.extract k j) with _ | _
      all_goals
        go_wp2_with fail
        refine (number_calls _ _ hsz HD.out).mono ?_
        rintro e w' ⟨rfl, rfl⟩
        go_wp2_with fail
        refine bodyPost_ret (by simp [results, Tryz.results19, go_sem, *]; try rfl) rfl ?_
        refine ⟨tok_ret ?_ ?_, (by repeat (first | (with_reducible exact Gr.refl _) | (with_reducible refine Gr.alloc ?_ _) | (with_reducible refine Gr.drewN ?_ _) | (with_reducible refine Gr.drew ?_) | (with_reducible refine Gr.later ?_ _ _)))⟩
        · rw [HT.out, HE.out, ho]; rfl
        · rw [HT.out, HE.out, ho]; rfl
end Go.Proofs.YtcgfpoaacalfbaaGreatDoor
