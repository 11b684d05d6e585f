/- The document's answer of layer 3: token, where a letter stands. -/
import Derived.Test.YtcgfpoaacalfbaaGreatDoorLexTokPlain
import Derived.Test.YtcgfpoaacalfbaaGreatDoorLexNumber
namespace Go.Proofs.YtcgfpoaacalfbaaGreatDoor
open Go.RowKit
attribute [local go_sem] later_size later_cell later_frozen later_setCell later_drew later_drewN later_tape drewN_setCell drewN_alloc drewN_later later_later lt_more lt_more1 lt_more2 lt_more3 lt_more4 lk0_0_1 lk1_0_1 lk2_0_1 lk0_0_2 lk1_0_2 lk2_0_2 lk0_1_2 lk0_0_3 lk1_0_3 lk2_0_3 lk0_1_3 lk0_2_3 lk0_0_4 lk1_0_4 lk2_0_4 lk0_1_4 lk0_2_4 lk0_3_4 lk0_0_5 lk1_0_5 lk2_0_5 lk0_1_5 lk0_2_5 lk0_3_5 lk0_4_5 lk0_0_6 lk1_0_6 lk2_0_6 lk0_1_6 lk0_2_6 lk0_3_6 lk0_4_6 lk0_5_6 lk0_0_7 lk1_0_7 lk2_0_7 lk0_1_7 lk0_2_7 lk0_3_7 lk0_4_7 lk0_5_7 lk0_6_7
/-- A token as the program has it. -/
def tokVal (t : Tok) : Value := .agg #[.int .u8 t.kind, .string t.text, .int .i64 t.int, .int .i64 t.place]
theorem tok_ret {a b : Value} {c d : Int} (h : a = b) (k : c = d) : Ending.returned (.tuple #[a, .int .i64 c]) = .returned (.tuple #[b, .int .i64 d]) := by rw [h, k]
set_option maxHeartbeats 3200000 in
theorem token_name (s : ByteArray) (k : Nat) (w : World) (hs : s.size ≤ 1048576) (hk : k < s.size) (hl : letterB (byteAt s k) = true) :
    Calls Tryz.prog 19 #[.string s, .int .i64 k] w fun e w' => e = .returned (.tuple #[tokVal (tokenOf s k).1, .int .i64 (tokenOf s k).2]) ∧ Gr w w' := by
  have HT : Hid (tokenOf s k = if wordEnd s k - k ≤ 32 then (⟨if wordB (s.extract k (wordEnd s k)) = true then 3 else 1, s.extract k (wordEnd s k), 0, k⟩, 0) else (⟨0, ⟨#[]⟩, 0, 0⟩, 32)) := by rw [Hid, tokenOf, if_pos hl]
  rw [byteAt_lt hk] at hl
  go_enter Tryz.func19, Tryz.ntmps19
  go_wp2_with fail
  refine (letter_calls _ _).mono ?_
  rintro e w' ⟨rfl, rfl⟩
  go_wp2_with fail
  have HLK : Hid _ := hl
  clear hl
  go_loop [6] (fun i => ∃ j : Nat, k ≤ j ∧ j ≤ s.size ∧ i = .int .i64 j ∧ Hid (wordEnd s j = wordEnd s k)) (fun i => s.size - (intOf i).toNat)
  case atStart => exact ⟨k, Nat.le_refl _, by omega, rfl, rfl⟩
  case round =>
    obtain ⟨j, hkj, hj, rfl, HJ⟩ := hrel
    by_cases hlt : j < s.size
    · have HB : Hid (byteAt s j = (s[j].toNat : Int)) := byteAt_lt hlt
      rcases hl : letterB (s[j].toNat : Int) with _ | _
      · rcases hd : digitB (s[j].toNat : Int) with _ | _
        · have HE : Hid (wordEnd s k = j) := by rw [Hid, ← HJ.out]; exact wordEnd_here (Or.inr (by rw [HB.out]; exact ⟨hl, hd⟩))
          by_cases h32 : j - k ≤ 32
          · rcases hw : wordB (s.extract k j) with _ | _
            all_goals
              go_wp2_with fail
              refine (letter_calls _ _).mono ?_
              rintro e w' ⟨rfl, rfl⟩
              go_wp2_with fail
              refine (digit_calls _ _).mono ?_
              rintro e w' ⟨rfl, rfl⟩
              go_wp2_with fail
              refine (word_calls _ _).mono ?_
              rintro e w' ⟨rfl, rfl⟩
              go_wp2_with fail
              refine bodyPost_ret (by simp [results, Tryz.results19, go_sem, *]; try rfl) rfl ?_
              refine ⟨tok_ret ?_ ?_, (by repeat (first | (with_reducible exact Gr.refl _) | (with_reducible refine Gr.alloc ?_ _) | (with_reducible refine Gr.drewN ?_ _) | (with_reducible refine Gr.drew ?_) | (with_reducible refine Gr.later ?_ _ _)))⟩
              · rw [HT.out, HE.out, if_pos h32, hw]; rfl
              · rw [HT.out, HE.out, if_pos h32]
          · go_wp2_with fail
            refine (letter_calls _ _).mono ?_
            rintro e w' ⟨rfl, rfl⟩
            go_wp2_with fail
            refine (digit_calls _ _).mono ?_
            rintro e w' ⟨rfl, rfl⟩
            go_wp2_with fail
            refine bodyPost_ret (by simp [results, Tryz.results19, go_sem, *]; try rfl) rfl ?_
            refine ⟨tok_ret ?_ ?_, (by repeat (first | (with_reducible exact Gr.refl _) | (with_reducible refine Gr.alloc ?_ _) | (with_reducible refine Gr.drewN ?_ _) | (with_reducible refine Gr.drew ?_) | (with_reducible refine Gr.later ?_ _ _)))⟩
            · rw [HT.out, HE.out, if_neg h32]; rfl
            · rw [HT.out, HE.out, if_neg h32]
        · go_wp2_with fail
          refine (letter_calls _ _).mono ?_
          rintro e w' ⟨rfl, rfl⟩
          go_wp2_with fail
          refine (digit_calls _ _).mono ?_
          rintro e w' ⟨rfl, rfl⟩
          go_wp2_with fail
          go_round
          case rel => exact ⟨j + 1, by omega, by omega, by go_num, by rw [Hid, ← HJ.out]; exact wordEnd_step hlt (Or.inr (by rw [HB.out]; exact hd))⟩
          case measure => simp [intOf]; omega
      · go_wp2_with fail
        refine (letter_calls _ _).mono ?_
        rintro e w' ⟨rfl, rfl⟩
        go_wp2_with fail
        go_round
        case rel => exact ⟨j + 1, by omega, by omega, by go_num, by rw [Hid, ← HJ.out]; exact wordEnd_step hlt (Or.inl (by rw [HB.out]; exact hl))⟩
        case measure => simp [intOf]; omega
    · have HE : Hid (wordEnd s k = j) := by rw [Hid, ← HJ.out]; exact wordEnd_here (Or.inl hlt)
      by_cases h32 : j - k ≤ 32
      · rcases hw : wordB (s.extract k j) with _ | _
        all_goals
          go_wp2_with fail
          refine (word_calls _ _).mono ?_
          rintro e w' ⟨rfl, rfl⟩
          go_wp2_with fail
          refine bodyPost_ret (by simp [results, Tryz.results19, go_sem, *]; try rfl) rfl ?_
          refine ⟨tok_ret ?_ ?_, (by repeat (first | (with_reducible exact Gr.refl _) | (with_reducible refine Gr.alloc ?_ _) | (with_reducible refine Gr.drewN ?_ _) | (with_reducible refine Gr.drew ?_) | (with_reducible refine Gr.later ?_ _ _)))⟩
          · rw [HT.out, HE.out, if_pos h32, hw]; rfl
          · rw [HT.out, HE.out, if_pos h32]
      · go_wp2_with fail
        refine bodyPost_ret (by simp [results, Tryz.results19, go_sem, *]; try rfl) rfl ?_
        refine ⟨tok_ret ?_ ?_, (by repeat (first | (with_reducible exact Gr.refl _) | (with_reducible refine Gr.alloc ?_ _) | (with_reducible refine Gr.drewN ?_ _) | (with_reducible refine Gr.drew ?_) | (with_reducible refine Gr.later ?_ _ _)))⟩
        · rw [HT.out, HE.out, if_neg h32]; rfl
        · rw [HT.out, HE.out, if_neg h32]
end Go.Proofs.YtcgfpoaacalfbaaGreatDoor
