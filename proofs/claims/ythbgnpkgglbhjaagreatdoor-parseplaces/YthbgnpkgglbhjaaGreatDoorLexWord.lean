/- The document's answer of layer 3: Words, in, Word, Name. -/
import Derived.Test.YthbgnpkgglbhjaaGreatDoorLexLetter
import Derived.Deep.QuietTactic
import Derived.BigQuiet
namespace Go.Proofs.YthbgnpkgglbhjaaGreatDoor
open Go.RowKit
attribute [local go_sem] later_size later_cell later_frozen later_setCell later_drew later_drewN later_tape drewN_setCell drewN_alloc drewN_later later_later lt_more lt_more1 lt_more2 lt_more3 lt_more4 lk0_0_1 lk1_0_1 lk2_0_1 lk0_0_2 lk1_0_2 lk2_0_2 lk0_1_2 lk0_0_3 lk1_0_3 lk2_0_3 lk0_1_3 lk0_2_3 lk0_0_4 lk1_0_4 lk2_0_4 lk0_1_4 lk0_2_4 lk0_3_4 lk0_0_5 lk1_0_5 lk2_0_5 lk0_1_5 lk0_2_5 lk0_3_5 lk0_4_5 lk0_0_6 lk1_0_6 lk2_0_6 lk0_1_6 lk0_2_6 lk0_3_6 lk0_4_6 lk0_5_6 lk0_0_7 lk1_0_7 lk2_0_7 lk0_1_7 lk0_2_7 lk0_3_7 lk0_4_7 lk0_5_7 lk0_6_7
def wordsObj : Obj := .cells (wordTexts.map Value.string).toArray 9
set_option maxHeartbeats 800000 in
theorem words_calls (w : World) : Calls Tryz.prog 81 #[] w fun e w' => e = .returned (.slice (some ⟨w.heap.size, 0, none⟩) 20 20) ∧ w' = w.alloc wordsObj := by
  go_enter Tryz.func81, Tryz.ntmps81
  go_wp2
  go_ret
  exact ⟨rfl, rfl⟩
set_option maxHeartbeats 800000 in
theorem in_calls (l : List ByteArray) (b : Nat) (s : ByteArray) (w : World) (hl : ∀ k, (h : k < l.length) → w.cell? ⟨b, k, none⟩ = some (.string l[k])) (h0 : l.length ≤ 1000) : Calls Tryz.prog 80 #[.slice (some ⟨b, 0, none⟩) l.length l.length, .string s] w fun e w' => e = .returned (.bool (inB l s)) ∧ w' = w := by
  go_enter Tryz.func80, Tryz.ntmps80
  go_wp2
  go_loop [5] (fun i => ∃ k : Nat, k ≤ l.length ∧ i = .int .i64 k ∧ Hid (∀ j, (h : j < l.length) → j < k → ¬ l[j].toList = s.toList)) (fun i => l.length - (intOf i).toNat)
  case atStart => exact ⟨0, Nat.zero_le _, rfl, fun j _ h => by omega⟩
  case round =>
    obtain ⟨k, hk, rfl, HN⟩ := hrel
    by_cases hlt : k < l.length
    · have hc := hl k hlt
      have HL : Hid _ := hl
      clear hl
      go_wp2
      · go_ret
        have he : (l[k].toList == s.toList) = true := by assumption
        refine ⟨?_, rfl⟩
        refine congrArg (fun b => Ending.returned (.bool b)) ?_
        refine (decide_eq_true ?_).symm
        exact ⟨l[k], List.getElem_mem _, beq_iff_eq.1 he⟩
      · go_round
        case rel => exact ⟨k + 1, by omega, by go_num, fun j hj hjk => by
          by_cases e : j = k
          · subst e
            intro h
            simp_all
          · exact HN.out j hj (by omega)⟩
        case measure => simp [intOf]; omega
    · go_wp2
      go_ret
      refine ⟨?_, rfl⟩
      refine congrArg (fun b => Ending.returned (.bool b)) ?_
      refine (decide_eq_false ?_).symm
      intro hm
      obtain ⟨x, hx, e⟩ := hm
      obtain ⟨j, hj, rfl⟩ := List.getElem_of_mem hx
      exact HN.out j hj (by omega) e
theorem wordsObj_cell (w : World) (k : Nat) (h : k < wordTexts.length) : (w.alloc wordsObj).cell? ⟨w.heap.size, k, none⟩ = some (.string wordTexts[k]) := by
  unfold wordsObj
  rw [World.cell?_alloc_at _ _ _ _ rfl]
  simp [h]
set_option maxHeartbeats 800000 in
theorem word_calls (s : ByteArray) (w : World) : Calls Tryz.prog 47 #[.string s] w fun e w' => e = .returned (.bool (wordB s)) ∧ w' = w.alloc wordsObj := by
  have HI : Hid _ := inB_words s
  have hc := in_calls wordTexts w.heap.size s (w.alloc wordsObj) (wordsObj_cell w) (by decide)
  go_enter Tryz.func47, Tryz.ntmps47
  go_wp2_with fail
  refine (words_calls _).mono ?_
  rintro e w' ⟨rfl, rfl⟩
  go_wp2_with fail
  refine hc.mono ?_
  rintro e w' ⟨rfl, rfl⟩
  clear hc
  go_wp2
  go_ret
  refine ⟨?_, rfl⟩
  exact congrArg (fun b => Ending.returned (.bool b)) HI.out
end Go.Proofs.YthbgnpkgglbhjaaGreatDoor
