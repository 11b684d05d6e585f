/- The document's answer of layer 3: Line. -/
import Derived.Test.YtcgfpoaacalfbaaDoorLexLetter
namespace Go.Proofs.YtcgfpoaacalfbaaDoor
open Go.RowKit
attribute [local go_sem] later_size later_cell later_frozen later_setCell later_drew later_drewN later_tape drewN_setCell drewN_alloc drewN_later later_later lt_more lt_more1 lt_more2 lt_more3 lt_more4 lk0_0_1 lk1_0_1 lk2_0_1 lk0_0_2 lk1_0_2 lk2_0_2 lk0_1_2 lk0_0_3 lk1_0_3 lk2_0_3 lk0_1_3 lk0_2_3 lk0_0_4 lk1_0_4 lk2_0_4 lk0_1_4 lk0_2_4 lk0_3_4 lk0_0_5 lk1_0_5 lk2_0_5 lk0_1_5 lk0_2_5 lk0_3_5 lk0_4_5 lk0_0_6 lk1_0_6 lk2_0_6 lk0_1_6 lk0_2_6 lk0_3_6 lk0_4_6 lk0_5_6 lk0_0_7 lk1_0_7 lk2_0_7 lk0_1_7 lk0_2_7 lk0_3_7 lk0_4_7 lk0_5_7 lk0_6_7
theorem ret_two {a b c d : Int} (h : a = b) (k : c = d) : Ending.returned (.tuple #[.int .i64 a, .int .i64 c]) = .returned (.tuple #[.int .i64 b, .int .i64 d]) := by rw [h, k]
set_option maxHeartbeats 800000 in
theorem line_calls (s : ByteArray) (p : Int) (w : World) (hs : s.size ≤ 1048576) (hp : -9223372036854775808 ≤ p) (hq : p < 9223372036854775808) :
    Calls Tryd.prog 8 #[.string s, .int .i64 p] w fun e w' => e = .returned (.tuple #[.int .i64 (linesTo s (ahead s p)), .int .i64 (columnTo s (ahead s p))]) ∧ w' = w := by
  go_enter Tryd.func8, Tryd.ntmps8
  go_wp2
  go_loop [6, 7, 8] (fun l c i => ∃ k : Nat, k ≤ ahead s p ∧ i = .int .i64 k ∧ l = .int .i64 (linesTo s k) ∧ c = .int .i64 (columnTo s k)) (fun _ _ i => s.size - (intOf i).toNat)
  case atStart => exact ⟨0, Nat.zero_le _, rfl, rfl, rfl⟩
  case round =>
    obtain ⟨k, hk, rfl, rfl, rfl⟩ := hrel
    have hks : k ≤ s.size := by unfold ahead at hk; omega
    have hl : linesTo s k ≤ 2000000 := by have := linesTo_le s k; omega
    have hc : columnTo s k ≤ 2000000 := by have := columnTo_le s k; omega
    have HA : Hid (ahead s p = min s.size p.toNat) := rfl
    have hk2 : k ≤ s.size ∧ k ≤ p.toNat := by unfold ahead at hk; omega
    by_cases hlt : k < s.size
    · by_cases hp2 : (k : Int) < p
      · have H1 : Hid (linesTo s (k + 1) = if ((s[k].toNat : Int) == 10) = true then linesTo s k + 1 else linesTo s k) := by simp [Hid, linesTo, byteAt_lt hlt]
        have H2 : Hid (columnTo s (k + 1) = if ((s[k].toNat : Int) == 10) = true then 1 else columnTo s k + 1) := by simp [Hid, columnTo, byteAt_lt hlt]
        go_wp2
        all_goals
          go_round
          case rel => exact ⟨k + 1, by rw [HA.out]; omega, by go_num, by rw [H1.out]; first | (rw [if_pos (by assumption)]; go_num) | (rw [if_neg (by simp [*])]), by rw [H2.out]; first | (rw [if_pos (by assumption)]; go_num) | (rw [if_neg (by simp [*])]; go_num)⟩
          case measure => simp [intOf]; omega
      · go_wp2
        go_ret2
        have e : k = ahead s p := by rw [HA.out]; omega
        exact ⟨ret_two (by rw [e]) (by rw [e]), rfl⟩
    · go_wp2
      go_ret2
      have e : k = ahead s p := by rw [HA.out]; omega
      exact ⟨ret_two (by rw [e]) (by rw [e]), rfl⟩
end Go.Proofs.YtcgfpoaacalfbaaDoor
