/- The statements' own way to hold an error against a fault. -/
import Derived.Test.YtcgfpoaacalfbaaGreatDoorErrAsCalls
namespace Go.Proofs.YtcgfpoaacalfbaaGreatDoor
open Go.RowKit
attribute [local go_sem] later_size later_cell later_frozen later_setCell later_drew later_drewN later_tape drewN_setCell drewN_alloc drewN_later later_later lt_more lt_more1 lt_more2 lt_more3 lt_more4 lk0_0_1 lk1_0_1 lk2_0_1 lk0_0_2 lk1_0_2 lk2_0_2 lk0_1_2 lk0_0_3 lk1_0_3 lk2_0_3 lk0_1_3 lk0_2_3 lk0_0_4 lk1_0_4 lk2_0_4 lk0_1_4 lk0_2_4 lk0_3_4 lk0_0_5 lk1_0_5 lk2_0_5 lk0_1_5 lk0_2_5 lk0_3_5 lk0_4_5 lk0_0_6 lk1_0_6 lk2_0_6 lk0_1_6 lk0_2_6 lk0_3_6 lk0_4_6 lk0_5_6 lk0_0_7 lk1_0_7 lk2_0_7 lk0_1_7 lk0_2_7 lk0_3_7 lk0_4_7 lk0_5_7 lk0_6_7
set_option maxHeartbeats 1600000 in
theorem told_none (k : Int) (w : World) : Calls Tryz.prog 8 #[.nilIface, .agg #[.int .i64 k, .int .i64 0]] w fun e w' => e = .returned (.bool true) ∧ Gr w w' := by
  go_enter Tryz.func8, Tryz.ntmps8
  go_wp2
  go_ret
  exact ⟨rfl, (by repeat (first | (with_reducible exact Gr.refl _) | (with_reducible refine Gr.alloc ?_ _) | (with_reducible refine Gr.drewN ?_ _) | (with_reducible refine Gr.drew ?_) | (with_reducible refine Gr.later ?_ _ _)))⟩
set_option maxHeartbeats 1600000 in
theorem told_wrong (k n : Int) (w : World) (hn : n ≠ 0) (hg : w.cell? ⟨0, 0, none⟩ = some (.iface 85 (.agg #[.pointer (some ⟨7, 25, none⟩)]))) :
    Calls Tryz.prog 8 #[.iface 62 (.agg #[.int .i64 k, .int .i64 n]), .agg #[.int .i64 k, .int .i64 n]] w fun e w' => e = .returned (.bool true) ∧ Below w.heap.size w w' := by
  have hn1 : (n == 0) = false := beq_false_of_ne hn
  have hlt : 0 < w.heap.size := by
    rcases Nat.eq_zero_or_pos w.heap.size with h | h
    · simp [World.cell?, h] at hg
    · exact h
  have HC := as_calls (w.heap.size + 1) k n (.int .i64 0) (.int .i64 0) ((w.alloc (.cells #[.int .i64 k, .int .i64 n] 30)).alloc (.cells #[.int .i64 0, .int .i64 0] 30)) (by rw [World.cell?_alloc_lt _ _ ⟨0, 0, none⟩ (by simp), World.cell?_alloc_lt _ _ ⟨0, 0, none⟩ hlt]; exact hg) (by simp) (by simp) (by simp) (by simp)
  clear hn
  go_enter Tryz.func8, Tryz.ntmps8
  go_wp2_with fail
  refine HC.mono ?_
  rintro e w1 ⟨rfl, g0, g1, hb⟩
  clear HC
  have f0 : w1.cell? ⟨w.heap.size, 0, none⟩ = some (.int .i64 k) := (hb.cell (p := ⟨w.heap.size, 0, none⟩) (by simp)).trans (by simp)
  have f1 : w1.cell? ⟨w.heap.size, 1, none⟩ = some (.int .i64 n) := (hb.cell (p := ⟨w.heap.size, 1, none⟩) (by simp)).trans (by simp)
  have hb1 : Below w.heap.size w w1 := (((Below.refl w.heap.size w).alloc (Nat.le_refl _) _).alloc (by simp) _).trans (hb.mono (by omega))
  have HB1 : Hid (Below w.heap.size w w1) := hb1
  clear hb hb1 hg hlt
  go_wp2_with fail
  refine (is_calls k n n w1).mono ?_
  rintro e w2 ⟨rfl, hg2⟩
  have HB2 : Hid (Below w.heap.size w w2) := HB1.out.trans (hg2.below.mono HB1.out.size)
  clear hg2 HB1 f0 f1 g0 g1
  go_wp2_with fail
  go_ret
  exact ⟨bool_ret (by simp), HB2.out⟩
end Go.Proofs.YtcgfpoaacalfbaaGreatDoor
