/- The document's answer of layer 3: after. -/
import Derived.Test.YtcgfpoaacalfbaaGreatDoorLexAfterPlain
import Derived.Test.YtcgfpoaacalfbaaGreatDoorLexWord
namespace Go.Proofs.YtcgfpoaacalfbaaGreatDoor
open Go.RowKit
attribute [local go_sem] later_size later_cell later_frozen later_setCell later_drew later_drewN later_tape drewN_setCell drewN_alloc drewN_later later_later lt_more lt_more1 lt_more2 lt_more3 lt_more4 lk0_0_1 lk1_0_1 lk2_0_1 lk0_0_2 lk1_0_2 lk2_0_2 lk0_1_2 lk0_0_3 lk1_0_3 lk2_0_3 lk0_1_3 lk0_2_3 lk0_0_4 lk1_0_4 lk2_0_4 lk0_1_4 lk0_2_4 lk0_3_4 lk0_0_5 lk1_0_5 lk2_0_5 lk0_1_5 lk0_2_5 lk0_3_5 lk0_4_5 lk0_0_6 lk1_0_6 lk2_0_6 lk0_1_6 lk0_2_6 lk0_3_6 lk0_4_6 lk0_5_6 lk0_0_7 lk1_0_7 lk2_0_7 lk0_1_7 lk0_2_7 lk0_3_7 lk0_4_7 lk0_5_7 lk0_6_7
theorem ret_i64 {a b : Int} (h : a = b) : Ending.returned (.int .i64 a) = .returned (.int .i64 b) := by rw [h]
set_option maxHeartbeats 1600000 in
theorem after_calls (s : ByteArray) (k0 : Nat) (w : World) (hs : s.size ≤ 1048576) (h0 : k0 ≤ s.size) : Calls Tryz.prog 18 #[.string s, .int .i64 k0] w fun e w' => e = .returned (.int .i64 (afterTo s k0)) ∧ w' = w := by
  go_enter Tryz.func18, Tryz.ntmps18
  go_wp2
  go_loop [1] (fun i => ∃ k : Nat, k ≤ s.size ∧ i = .int .i64 k ∧ Hid (afterTo s k = afterTo s k0)) (fun i => s.size - (intOf i).toNat)
  case atStart => exact ⟨k0, h0, rfl, rfl⟩
  case round =>
    obtain ⟨k, hk, rfl, HK⟩ := hrel
    by_cases hlt : k < s.size
    · have HB : Hid (byteAt s k = (s[k].toNat : Int)) := byteAt_lt hlt
      rcases hbl : blankB (s[k].toNat : Int) with _ | _
      · have hb2 := hbl
        simp only [blankB, decide_eq_false_iff_not, not_or] at hb2
        obtain ⟨g1, g2, g3, g4⟩ := hb2
        have HBL : Hid (blankB (byteAt s k) = false) := by rw [Hid, HB.out]; exact hbl
        clear hbl
        by_cases g5 : (s[k].toNat : Int) = 45
        · by_cases g6 : k + 1 < s.size
          · have HB2 : Hid (byteAt s (k + 1) = (s[k + 1].toNat : Int)) := byteAt_lt g6
            by_cases g7 : (s[k + 1].toNat : Int) = 45
            · have HY : Hid (hyphensB s k = true) := by simp only [Hid, hyphensB, decide_eq_true_eq, HB.out, HB2.out]; exact ⟨g5, g6, g7⟩
              have hgt := hyphens_gt hlt HY.out
              go_wp2
              go_loop [1] (fun i => ∃ j : Nat, k ≤ j ∧ j ≤ s.size ∧ i = .int .i64 j ∧ Hid (lineEnd s j = lineEnd s k)) (fun i => s.size - (intOf i).toNat)
              case atStart => exact ⟨k, Nat.le_refl _, hk, rfl, rfl⟩
              case round =>
                obtain ⟨j, hkj, hj, rfl, HJ⟩ := hrel
                by_cases hjl : j < s.size
                · have HBJ : Hid (byteAt s j = (s[j].toNat : Int)) := byteAt_lt hjl
                  by_cases g8 : (s[j].toNat : Int) = 10
                  · have hjj := lineEnd_here (s := s) (k := j) (Or.inr (by rw [HBJ.out]; exact g8))
                    have HJJ : Hid (lineEnd s k = j) := by rw [Hid, ← HJ.out]; exact hjj
                    clear hjj
                    go_wp2
                    go_round
                    case rel => exact ⟨j, hj, rfl, by rw [Hid, ← HK.out, ← afterTo_remark hlt HBL.out HY.out, HJJ.out]⟩
                    case measure => simp [intOf]; have := HJJ.out; omega
                  · go_wp2
                    go_round
                    case rel => exact ⟨j + 1, by omega, by omega, by go_num, by rw [Hid, ← HJ.out]; exact lineEnd_step hjl (by rw [HBJ.out]; exact g8)⟩
                    case measure => simp [intOf]; omega
                · have hjj := lineEnd_here (s := s) (k := j) (Or.inl hjl)
                  have HJJ : Hid (lineEnd s k = j) := by rw [Hid, ← HJ.out]; exact hjj
                  clear hjj
                  go_wp2
                  go_round
                  case rel => exact ⟨j, hj, rfl, by rw [Hid, ← HK.out, ← afterTo_remark hlt HBL.out HY.out, HJJ.out]⟩
                  case measure => simp [intOf]; have := HJJ.out; omega
            · go_wp2
              go_ret
              refine ⟨ret_i64 ?_, rfl⟩
              rw [← HK.out, afterTo_here hlt HBL.out (by simp only [hyphensB, decide_eq_false_iff_not, HB.out, HB2.out]; exact fun h => g7 h.2.2)]
          · go_wp2
            go_ret
            refine ⟨ret_i64 ?_, rfl⟩
            rw [← HK.out, afterTo_here hlt HBL.out (by simp only [hyphensB, decide_eq_false_iff_not]; exact fun h => g6 h.2.1)]
        · have HY : Hid (afterTo s k0 = k) := by rw [Hid, ← HK.out]; exact afterTo_here hlt HBL.out (by simp only [hyphensB, decide_eq_false_iff_not, HB.out]; exact fun h => g5 h.1)
          have b1 : ((s[k].toNat : Int) == 32) = false := beq_false_of_ne g1
          have b2 : ((s[k].toNat : Int) == 9) = false := beq_false_of_ne g2
          have b3 : ((s[k].toNat : Int) == 10) = false := beq_false_of_ne g3
          have b4 : ((s[k].toNat : Int) == 13) = false := beq_false_of_ne g4
          have b5 : ((s[k].toNat : Int) == 45) = false := beq_false_of_ne g5
          clear g1 g2 g3 g4 g5
          go_wp2
          go_ret
          refine ⟨ret_i64 ?_, rfl⟩
          rw [HY.out]
      · have hb2 := hbl
        simp only [blankB, decide_eq_true_eq] at hb2
        have HN : Hid (afterTo s (k + 1) = afterTo s k0) := by rw [Hid, ← HK.out]; exact afterTo_blank hlt (by rw [HB.out]; exact hbl)
        clear hbl
        rcases hb2 with g | g | g | g
        all_goals
          go_wp2
          go_round
          case rel => exact ⟨k + 1, by omega, by go_num, HN⟩
          case measure => simp [intOf]; omega
    · go_wp2
      go_ret
      refine ⟨ret_i64 ?_, rfl⟩
      rw [← HK.out, afterTo_end hlt]
end Go.Proofs.YtcgfpoaacalfbaaGreatDoor
