/- The document's answer of layer 3: token, where neither a letter nor a digit stands. -/
import Derived.Test.YtcgfpoaacalfbaaGreatDoorLexTokName
import Derived.Test.YtcgfpoaacalfbaaGreatDoorLexScanPlain
import Derived.Deep.QuietTactic
import Derived.BigQuiet
namespace Go.Proofs.YtcgfpoaacalfbaaGreatDoor
open Go.RowKit
attribute [local go_sem] later_size later_cell later_frozen later_setCell later_drew later_drewN later_tape drewN_setCell drewN_alloc drewN_later later_later lt_more lt_more1 lt_more2 lt_more3 lt_more4 lk0_0_1 lk1_0_1 lk2_0_1 lk0_0_2 lk1_0_2 lk2_0_2 lk0_1_2 lk0_0_3 lk1_0_3 lk2_0_3 lk0_1_3 lk0_2_3 lk0_0_4 lk1_0_4 lk2_0_4 lk0_1_4 lk0_2_4 lk0_3_4 lk0_0_5 lk1_0_5 lk2_0_5 lk0_1_5 lk0_2_5 lk0_3_5 lk0_4_5 lk0_0_6 lk1_0_6 lk2_0_6 lk0_1_6 lk0_2_6 lk0_3_6 lk0_4_6 lk0_5_6 lk0_0_7 lk1_0_7 lk2_0_7 lk0_1_7 lk0_2_7 lk0_3_7 lk0_4_7 lk0_5_7 lk0_6_7
def signsObj : Obj := .cells (signTexts.map Value.string).toArray 9
set_option maxHeartbeats 800000 in
theorem signs_calls (w : World) : Calls Tryz.prog 38 #[] w fun e w' => e = .returned (.slice (some ⟨w.heap.size, 0, none⟩) 20 20) ∧ w' = w.alloc signsObj := by
  go_enter Tryz.func38, Tryz.ntmps38
  go_wp2
  go_ret
  exact ⟨rfl, rfl⟩
theorem signsObj_cell (w : World) (k : Nat) (h : k < signTexts.length) : (w.alloc signsObj).cell? ⟨w.heap.size, k, none⟩ = some (.string signTexts[k]) := by
  unfold signsObj
  rw [World.cell?_alloc_at _ _ _ _ rfl]
  simp [h]
set_option maxHeartbeats 3200000 in
theorem token_sign (s : ByteArray) (k : Nat) (w : World) (hs : s.size ≤ 1048576) (hk : k < s.size) (hl : letterB (byteAt s k) = false) (hd : digitB (byteAt s k) = false) :
    Calls Tryz.prog 19 #[.string s, .int .i64 k] w fun e w' => e = .returned (.tuple #[tokVal (tokenOf s k).1, .int .i64 (tokenOf s k).2]) ∧ Gr w w' := by
  have HT : Hid (tokenOf s k = signTok (signAt s k signTexts) k) := by rw [Hid, tokenOf, if_neg (by simp [hl]), if_neg (by simp [hd])]
  rw [byteAt_lt hk] at hl hd
  go_enter Tryz.func19, Tryz.ntmps19
  go_wp2_with fail
  refine (letter_calls _ _).mono ?_
  rintro e w' ⟨rfl, rfl⟩
  go_wp2_with fail
  refine (digit_calls _ _).mono ?_
  rintro e w' ⟨rfl, rfl⟩
  go_wp2_with fail
  refine (signs_calls _).mono ?_
  rintro e w' ⟨rfl, rfl⟩
  go_wp2_with fail
  have HLK : Hid _ := hl
  have HDK : Hid _ := hd
  clear hl hd
  have hlen : signTexts.length = 20 := rfl
  have HW : Hid _ := signsObj_cell (w.alloc (.cells #[.int .u8 0, .string ⟨#[]⟩, .int .i64 0, .int .i64 0] 39))
  go_loopw [11] (fun i w' => ∃ j n : Nat, j ≤ 20 ∧ i = .int .i64 j ∧ w' = ((w.alloc (.cells #[.int .u8 0, .string ⟨#[]⟩, .int .i64 0, .int .i64 0] 39)).alloc signsObj).drewN n ∧ Hid (∀ i, (hi : i < signTexts.length) → i < j → standsB s k signTexts[i] = false)) (fun i _ => 20 - (intOf i).toNat)
  case atStart => exact ⟨0, 0, by omega, rfl, rfl, fun i _ h => by omega⟩
  case round =>
    obtain ⟨j, n, hj, rfl, rfl, HJ⟩ := hrel
    by_cases hlt : j < 20
    · have hm : signTexts[j]'(by omega) ∈ signTexts := List.getElem_mem _
      have hsz := signTexts_size _ hm
      have hc := HW.out j (by omega)
      rw [show (w.alloc (.cells #[.int .u8 0, .string ⟨#[]⟩, .int .i64 0, .int .i64 0] 39)).heap.size = w.heap.size + 1 from by simp] at hc
      have HSt : Hid (standsB s k (signTexts[j]'(by omega)) = decide ((signTexts[j]'(by omega)).size ≤ s.size - k ∧ (s.extract k (k + (signTexts[j]'(by omega)).size)).toList = (signTexts[j]'(by omega)).toList)) := rfl
      have HHit : Hid _ := signAt_hit s k signTexts j (by omega) HJ.out
      have HNext : Hid (standsB s k (signTexts[j]'(by omega)) = false → ∀ i, (hi : i < signTexts.length) → i < j + 1 → standsB s k signTexts[i] = false) := fun h i hi hij => by
        by_cases e : i = j
        · subst e; exact h
        · exact HJ.out i hi (by omega)
      clear HJ HW hm
      generalize signTexts[j]'(by omega) = t at *
      by_cases hfit : t.size ≤ s.size - k
      · have hdec : decide ((t.size : Int) ≤ (s.size : Int) - (k : Int)) = true := by simp; omega
        rcases he : ((s.extract k (k + t.size)).toList == t.toList) with _ | _
        · have HF : Hid (standsB s k t = false) := by rw [Hid, HSt.out]; exact decide_eq_false fun h => by simp [h.2] at he
          go_wp2
          go_quiet (fail)
          go_wp2
          go_roundw
          case rel => exact ⟨j + 1, _, by omega, by go_num, rfl, HNext.out HF.out⟩
          case measure => simp [intOf]; omega
        · have HTr : Hid (standsB s k t = true) := by rw [Hid, HSt.out]; exact decide_eq_true ⟨hfit, beq_iff_eq.1 he⟩
          go_wp2
          go_quiet (fail)
          go_wp2
          refine bodyPost_ret (by simp [results, Tryz.results19, go_sem, *]; try rfl) rfl ?_
          refine ⟨tok_ret ?_ ?_, (by repeat (first | (with_reducible exact Gr.refl _) | (with_reducible refine Gr.alloc ?_ _) | (with_reducible refine Gr.drewN ?_ _) | (with_reducible refine Gr.drew ?_) | (with_reducible refine Gr.later ?_ _ _)))⟩
          · rw [HT.out, HHit.out HTr.out]; rfl
          · rw [HT.out, HHit.out HTr.out]; rfl
      · have hdec : decide ((t.size : Int) ≤ (s.size : Int) - (k : Int)) = false := by simp; omega
        have HF : Hid (standsB s k t = false) := by rw [Hid, HSt.out]; exact decide_eq_false fun h => hfit h.1
        go_wp2
        go_quiet (fail)
        go_wp2
        go_roundw
        case rel => exact ⟨j + 1, _, by omega, by go_num, rfl, HNext.out HF.out⟩
        case measure => simp [intOf]; omega
    · have e : j = 20 := by omega
      subst e
      have HN : Hid (signAt s k signTexts = none) := signAt_none s k signTexts fun i hi => HJ.out i hi (by omega)
      go_wp2
      refine bodyPost_ret (by simp [results, Tryz.results19, go_sem, *]; try rfl) rfl ?_
      refine ⟨tok_ret ?_ ?_, (by repeat (first | (with_reducible exact Gr.refl _) | (with_reducible refine Gr.alloc ?_ _) | (with_reducible refine Gr.drewN ?_ _) | (with_reducible refine Gr.drew ?_) | (with_reducible refine Gr.later ?_ _ _)))⟩
      · rw [HT.out, HN.out]; rfl
      · rw [HT.out, HN.out]; rfl
end Go.Proofs.YtcgfpoaacalfbaaGreatDoor
