/- One step of the program's Tokens: what begins at a place, and what is read there; its faults; its copy of the source. -/
import Derived.Test.YthbgnpkgglbhjaaGreatDoorLexStepPlain
import Derived.Test.YthbgnpkgglbhjaaGreatDoorLexRead
import Derived.Deep.QuietTactic
import Derived.BigQuiet
namespace Go.Proofs.YthbgnpkgglbhjaaGreatDoor
open Go.RowKit Go.Shelf
attribute [local go_sem] later_size later_cell later_frozen later_setCell later_drew later_drewN later_tape drewN_setCell drewN_alloc drewN_later later_later lt_more lt_more1 lt_more2 lt_more3 lt_more4 lk0_0_1 lk1_0_1 lk2_0_1 lk0_0_2 lk1_0_2 lk2_0_2 lk0_1_2 lk0_0_3 lk1_0_3 lk2_0_3 lk0_1_3 lk0_2_3 lk0_0_4 lk1_0_4 lk2_0_4 lk0_1_4 lk0_2_4 lk0_3_4 lk0_0_5 lk1_0_5 lk2_0_5 lk0_1_5 lk0_2_5 lk0_3_5 lk0_4_5 lk0_0_6 lk1_0_6 lk2_0_6 lk0_1_6 lk0_2_6 lk0_3_6 lk0_4_6 lk0_5_6 lk0_0_7 lk1_0_7 lk2_0_7 lk0_1_7 lk0_2_7 lk0_3_7 lk0_4_7 lk0_5_7 lk0_6_7
set_option maxHeartbeats 1600000 in
theorem newL_calls (s : ByteArray) (k e : Int) (w : World) : Calls Tryz.prog 87 #[.string s, .int .i64 k, .int .i64 e] w fun x w' => x = .returned (.iface 154 (.agg #[.string s, .int .i64 k, .int .i64 e])) ∧ Below w.heap.size w w' := by
  go_enter Tryz.func87, Tryz.ntmps87
  go_wp2_with fail
  go_ret
  exact ⟨rfl, Below.refl _ _⟩
set_option maxHeartbeats 1600000 in
theorem fault_calls (k e : Int) (w : World) : Calls Tryz.prog 82 #[.int .i64 k, .int .i64 e] w fun r w' => r = .returned (.iface 154 (.agg #[.string ⟨#[110, 111, 32, 116, 111, 107, 101, 110, 115]⟩, .int .i64 k, .int .i64 e])) ∧ Below w.heap.size w w' := by
  have C := newL_calls ⟨#[110, 111, 32, 116, 111, 107, 101, 110, 115]⟩ k e w
  go_enter Tryz.func82, Tryz.ntmps82
  go_wp2_with fail
  refine C.mono ?_
  rintro x w1 ⟨rfl, hb⟩
  have HB : Hid _ := hb
  clear C hb
  go_wp2_with fail
  go_ret
  exact ⟨rfl, HB.out⟩
theorem clone_calls (s : ByteArray) (w : World) (hs : s.size ≤ 1048576) : Calls Tryz.prog 83 #[.string s] w fun e w' => e = .returned (.string s) ∧ Below w.heap.size w w' := by
  have HC : ∀ W : World, Calls Tryz.prog 110 #[.string s] W fun e w' => e = .returned (.string s) ∧ Below W.heap.size W w' := fun W => Any.stringslite_Clone Tryz.laysClone s W (by omega)
  go_enter Tryz.func83, Tryz.ntmps83
  go_wp2_with fail
  refine (HC _).mono ?_
  rintro e w1 ⟨rfl, hb⟩
  go_wp2
  go_ret
  exact ⟨rfl, hb⟩
/-- What begins at a place where no blank and no remark stands: a kind, a size; what is read there. -/
theorem step_tok {s : ByteArray} {k : Nat} (hk : k < s.size) (hb : blankB (byteAt s k) = false) (hh : hyphensB s k = false) (hs : s.size ≤ 1048576) :
    ∃ (kd0 : Int) (m : Nat) (kd : Int) (tx : ByteArray) (nt er : Int), begunOf (s.extract k s.size) = (kd0, (m : Int)) ∧ (kd0 == 255) = false ∧ k + m ≤ s.size ∧ (er = 0 → tx.size = m ∧ tokenOf s k = (⟨kd, tx, nt, k⟩, 0)) ∧ (er ≠ 0 → (tokenOf s k).2 = er) ∧
      ∀ (W : World) (b : Nat), HasWords W b → RangeVar W → Calls Tryz.prog 86 #[.map (some b), .int .u8 kd0, .string (s.extract k (k + m))] W fun e w' => e = .returned (.tuple #[.agg #[.int .u8 kd, .string tx, .int .i64 nt, .int .i64 0], .int .i64 er]) ∧ Below W.heap.size W w' := by
  rcases begun_tok hk hb hh with ⟨h1, h2⟩ | ⟨m, h1, h2, h3, h4⟩ | ⟨m, h1, h2, h3, h4⟩ | ⟨m, h1, h2, h3, h4, h5⟩
  · exact ⟨254, 0, 0, ⟨#[]⟩, 0, 30, h1, by decide, by omega, fun h => absurd h (by decide), fun _ => by rw [h2], fun W b _ _ => read_none _ _ W⟩
  · refine ⟨4, m, 4, s.extract k (k + m), 0, 0, h1, by decide, h3, fun _ => ⟨by rw [ByteArray.size_extract]; omega, h4⟩, fun h => absurd rfl h, fun W b _ _ => read_sign _ _ W⟩
  · have hle := wordEnd_le s k (by omega)
    have hx : (s.extract k (k + m)).size = m := by rw [ByteArray.size_extract]; omega
    by_cases h32 : m ≤ 32
    · refine ⟨1, m, if wordB (s.extract k (k + m)) = true then 3 else 1, s.extract k (k + m), 0, 0, h1, by decide, by omega, fun _ => ⟨hx, ?_⟩, fun h => absurd rfl h, fun W b hw _ => ?_⟩
      · unfold tokenOf
        rw [if_pos h4, if_pos (by omega), h3]
      · have := read_name b (s.extract k (k + m)) W hw (by omega)
        rw [if_pos (by omega)] at this
        exact this
    · refine ⟨1, m, 0, ⟨#[]⟩, 0, 32, h1, by decide, by omega, fun h => absurd h (by decide), fun _ => ?_, fun W b hw _ => ?_⟩
      · unfold tokenOf
        rw [if_pos h4, if_neg (by omega)]
      · have := read_name b (s.extract k (k + m)) W hw (by omega)
        rw [if_neg (by omega)] at this
        exact this
  · have hle := digitEnd_le s k (by omega)
    have hx : (s.extract k (k + m)).size = m := by rw [ByteArray.size_extract]; omega
    have hD : Digits (s.extract k (k + m)) := by rw [h3]; exact digits_extract s k (by omega)
    have hT : tokenOf s k = if numOk (s.extract k (k + m)) = true then (⟨2, s.extract k (k + m), numVal (s.extract k (k + m)), k⟩, 0) else (⟨0, ⟨#[]⟩, 0, 0⟩, 31) := by
      unfold tokenOf
      rw [if_neg (by simp [h4]), if_pos h5, h3]
    by_cases hn : numOk (s.extract k (k + m)) = true
    · rw [if_pos hn] at hT
      exact ⟨2, m, 2, s.extract k (k + m), numVal (s.extract k (k + m)), 0, h1, by decide, by omega, fun _ => ⟨hx, hT⟩, fun h => absurd rfl h, fun W b _ _ => read_num_ok _ _ W (by omega) hD (by omega) hn⟩
    · rw [if_neg hn] at hT
      exact ⟨2, m, 0, ⟨#[]⟩, 0, 31, h1, by decide, by omega, fun h => absurd h (by decide), fun _ => by rw [hT], fun W b _ hr => read_num_bad _ _ W hr (by omega) hD (by omega) (by simpa using hn)⟩
end Go.Proofs.YthbgnpkgglbhjaaGreatDoor
