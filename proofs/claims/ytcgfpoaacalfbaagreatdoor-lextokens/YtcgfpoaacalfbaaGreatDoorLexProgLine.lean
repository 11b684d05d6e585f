/- The program's Line. -/
import Derived.Test.YtcgfpoaacalfbaaGreatDoorLexStep
import Derived.Laws.Small
namespace Go.Proofs.YtcgfpoaacalfbaaGreatDoor
open Go.RowKit Go.Shelf
attribute [local go_sem] later_size later_cell later_frozen later_setCell later_drew later_drewN later_tape drewN_setCell drewN_alloc drewN_later later_later lt_more lt_more1 lt_more2 lt_more3 lt_more4 lk0_0_1 lk1_0_1 lk2_0_1 lk0_0_2 lk1_0_2 lk2_0_2 lk0_1_2 lk0_0_3 lk1_0_3 lk2_0_3 lk0_1_3 lk0_2_3 lk0_0_4 lk1_0_4 lk2_0_4 lk0_1_4 lk0_2_4 lk0_3_4 lk0_0_5 lk1_0_5 lk2_0_5 lk0_1_5 lk0_2_5 lk0_3_5 lk0_4_5 lk0_0_6 lk1_0_6 lk2_0_6 lk0_1_6 lk0_2_6 lk0_3_6 lk0_4_6 lk0_5_6 lk0_0_7 lk1_0_7 lk2_0_7 lk0_1_7 lk0_2_7 lk0_3_7 lk0_4_7 lk0_5_7 lk0_6_7
theorem ret_pair {a b c d : Int} (h : a = b) (k : c = d) : Ending.returned (.tuple #[.int .i64 a, .int .i64 c]) = .returned (.tuple #[.int .i64 b, .int .i64 d]) := by rw [h, k]
theorem data_at {t : ByteArray} {k : Nat} (h : k < t.size) : ((t.data[k]!).toNat : Int) = byteAt t k := by
  rw [byteAt_lt h]
  have h' : k < t.data.size := h
  rw [getElem!_pos t.data k h']
  rfl
theorem last_column (s : ByteArray) (n : Nat) (hn : n ≤ s.size) : ∀ j, j ≤ n → (j : Int) - Lib.lastIdx (s.extract 0 n) 10 j = (columnTo s j : Int)
  | 0, _ => rfl
  | j + 1, hj => by
    have ih := last_column s n hn j (by omega)
    have hsz : (s.extract 0 n).size = n := by rw [ByteArray.size_extract]; omega
    have e := data_at (t := s.extract 0 n) (k := j) (by omega)
    rw [byteAt_extract s 0 n j hn (by omega), Nat.zero_add] at e
    rw [Lib.lastIdx, columnTo, e]
    by_cases h : byteAt s j = 10
    · rw [if_pos h, if_pos h]
      omega
    · rw [if_neg h, if_neg h]
      omega
theorem count_lines (s : ByteArray) (n : Nat) (hn : n ≤ s.size) : ∀ j, j ≤ n → ((s.extract 0 n).data.toList.take j).count 10 + 1 = linesTo s j
  | 0, _ => rfl
  | j + 1, hj => by
    have ih := count_lines s n hn j (by omega)
    have hsz : (s.extract 0 n).size = n := by rw [ByteArray.size_extract]; omega
    have hl : j < (s.extract 0 n).data.toList.length := by rw [size_list]; omega
    have e := byteAt_extract s 0 n j hn (by omega)
    rw [Nat.zero_add, byteAt_lt (by omega)] at e
    have e2 : (s.extract 0 n).data.toList[j]'hl = (s.extract 0 n)[j]'(by omega) := rfl
    rw [List.take_succ_eq_append_getElem hl, List.count_append, linesTo, e2, List.count_singleton]
    by_cases h : byteAt s j = 10
    · rw [if_pos h]
      have e3 : (s.extract 0 n)[j]'(by omega) = 10 := UInt8.toNat_inj.1 (by show _ = 10; omega)
      rw [if_pos (by rw [e3]; rfl)]
      omega
    · rw [if_neg h]
      rw [if_neg (by
        intro hh
        have e3 := beq_iff_eq.1 hh
        rw [e3] at e
        exact h e.symm)]
      omega
theorem lines_of {s : ByteArray} {n : Nat} (hn : n ≤ s.size) : (Lib.countByte (s.extract 0 n).data.toList 10 : Int) + 1 = (linesTo s n : Int) ∧ (n : Int) - Lib.lastIndexByte (s.extract 0 n) 10 = (columnTo s n : Int) := by
  have hsz : (s.extract 0 n).size = n := by rw [ByteArray.size_extract]; omega
  refine ⟨?_, ?_⟩
  · have := count_lines s n hn n (Nat.le_refl _)
    rw [List.take_of_length_le (by rw [size_list]; omega)] at this
    unfold Lib.countByte
    omega
  · rw [Lib.lastIndexByte, hsz]
    exact last_column s n hn n (Nat.le_refl _)
theorem count_calls (t : ByteArray) (w : World) : Calls Tryz.prog 21 #[.string t, .string ⟨#[10]⟩] w fun e w' => e = .returned (.int .i64 (Lib.countByte t.data.toList 10)) ∧ w' = w := Any.strings_Count_one Tryz.laysCount t 10 w
theorem last_calls (t : ByteArray) (w : World) (hs : t.size ≤ 1048576) : Calls Tryz.prog 22 #[.string t, .int .u8 10] w fun e w' => e = .returned (.int .i64 (Lib.lastIndexByte t 10)) ∧ w' = w := Any.strings_LastIndexByte Tryz.laysLast t 10 (by omega) w
set_option maxHeartbeats 1600000 in
set_option maxRecDepth 100000 in
theorem line_at (s : ByteArray) (p : Int) (n : Nat) (w : World) (hs : s.size ≤ 1048576) (hn : n ≤ s.size) (h1 : min (max p 0) (s.size : Int) = (n : Int)) :
    Calls Tryz.prog 9 #[.string s, .int .i64 p] w fun e w' => e = .returned (.tuple #[.int .i64 (linesTo s n), .int .i64 (columnTo s n)]) ∧ w' = w := by
  obtain ⟨g1, g2⟩ := lines_of hn
  have hsz : (s.extract 0 n).size = n := by rw [ByteArray.size_extract]; omega
  have hl := linesTo_le s n
  have hc := columnTo_le s n
  have C1 := count_calls (s.extract 0 n)
  have C2 := fun W => last_calls (s.extract 0 n) W (by omega)
  generalize Lib.countByte (s.extract 0 n).data.toList 10 = c at *
  generalize Lib.lastIndexByte (s.extract 0 n) 10 = l at *
  have hq : (min (max p 0) (s.size : Int)).toNat = n := by omega
  go_enter Tryz.func9, Tryz.ntmps9
  go_wp2_with fail
  try rw [hq]
  refine (C1 _).mono ?_
  rintro e w' ⟨rfl, rfl⟩
  clear C1
  go_wp2_with fail
  try rw [hq]
  refine (C2 _).mono ?_
  rintro e w' ⟨rfl, rfl⟩
  clear C2
  go_wp2_with fail
  go_ret2
  refine ⟨ret_pair ?_ ?_, rfl⟩
  all_goals omega
theorem lexLine_calls (s : ByteArray) (p : Int) (w : World) (hs : s.size ≤ 1048576) (_hp : -9223372036854775808 ≤ p) (_hq : p < 9223372036854775808) :
    Calls Tryz.prog 9 #[.string s, .int .i64 p] w fun e w' => e = .returned (.tuple #[.int .i64 (linesTo s (ahead s p)), .int .i64 (columnTo s (ahead s p))]) ∧ Below w.heap.size w w' :=
  (line_at s p (ahead s p) w hs (by unfold ahead; omega) (by unfold ahead; omega)).mono fun e w' h => ⟨h.1, by rw [h.2]; exact Below.refl _ _⟩
end Go.Proofs.YtcgfpoaacalfbaaGreatDoor
