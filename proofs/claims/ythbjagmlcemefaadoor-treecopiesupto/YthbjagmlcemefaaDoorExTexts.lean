/- The document's answer of layer 4: Texts: two lists of texts. -/
import Derived.Test.YthbjagmlcemefaaDoorExWeigh
import Derived.Laws.OwnMore
import Derived.Deep.AppendLies
import Derived.OwnWalk
import Derived.Deep.QuietTactic
import Derived.BigQuiet
namespace Go.Proofs.YthbjagmlcemefaaDoor
open Go.RowKit
open Ex.size Ex.depth Ex.lies Ex.bulk Ex.good
attribute [local go_sem] later_size later_cell later_frozen later_setCell later_drew later_drewN later_tape drewN_setCell drewN_alloc drewN_later later_later lt_more lt_more1 lt_more2 lt_more3 lt_more4 lk0_0_1 lk1_0_1 lk2_0_1 lk0_0_2 lk1_0_2 lk2_0_2 lk0_1_2 lk0_0_3 lk1_0_3 lk2_0_3 lk0_1_3 lk0_2_3 lk0_0_4 lk1_0_4 lk2_0_4 lk0_1_4 lk0_2_4 lk0_3_4 lk0_0_5 lk1_0_5 lk2_0_5 lk0_1_5 lk0_2_5 lk0_3_5 lk0_4_5 lk0_0_6 lk1_0_6 lk2_0_6 lk0_1_6 lk0_2_6 lk0_3_6 lk0_4_6 lk0_5_6 lk0_0_7 lk1_0_7 lk2_0_7 lk0_1_7 lk0_2_7 lk0_3_7 lk0_4_7 lk0_5_7 lk0_6_7
def textCells (l : List ByteArray) : List Value := l.map Value.string
theorem text_cell {w : World} {B g cap : Nat} {l : List ByteArray} (h : w.ownsRow B 9 1 (.slice (some ⟨g, 0, none⟩) l.length cap) l.length (textCells l)) {k : Nat} (hk : k < l.length) : w.cell? ⟨g, k, none⟩ = some (.string l[k]) := by
  rw [h.cellAt k (by omega)]
  simp [textCells, hk]
set_option maxHeartbeats 1600000 in
theorem texts_none (w : World) (ao bo : Option Addr) (ca cb : Nat) : Calls Tryd.prog 24 #[.slice ao 0 ca, .slice bo 0 cb] w fun e w' => e = .returned (.bool true) ∧ Gr w w' := by
  go_enter Tryd.func24, Tryd.ntmps24
  go_wp2
  refine wp_loop_rounds 1 ?_
  rw [rounds_succ]
  go_wp2
  go_ret
  exact ⟨rfl, (by repeat (first | (with_reducible exact Gr.refl _) | (with_reducible refine Gr.alloc ?_ _) | (with_reducible refine Gr.drewN ?_ _) | (with_reducible refine Gr.drew ?_) | (with_reducible refine Gr.later ?_ _ _)))⟩
set_option maxRecDepth 100000 in
set_option maxHeartbeats 1600000 in
theorem texts_some (l : List ByteArray) (w : World) (ga gb ca cb Ba Bb : Nat) (hn : l.length ≤ 1048576) (ha : w.ownsRow Ba 9 1 (.slice (some ⟨ga, 0, none⟩) l.length ca) l.length (textCells l)) (hb : w.ownsRow Bb 9 1 (.slice (some ⟨gb, 0, none⟩) l.length cb) l.length (textCells l)) :
    Calls Tryd.prog 24 #[.slice (some ⟨ga, 0, none⟩) l.length ca, .slice (some ⟨gb, 0, none⟩) l.length cb] w fun e w' => e = .returned (.bool true) ∧ Gr w w' := by
  have HA : Hid (w.ownsRow Ba 9 1 (.slice (some ⟨ga, 0, none⟩) l.length ca) l.length (textCells l)) := ha
  have HB : Hid (w.ownsRow Bb 9 1 (.slice (some ⟨gb, 0, none⟩) l.length cb) l.length (textCells l)) := hb
  clear ha hb
  obtain ⟨n, hn2⟩ : ∃ n, n = l.length := ⟨_, rfl⟩
  rw [← hn2] at hn ⊢
  have HN : Hid (n = l.length) := hn2
  clear hn2
  go_enter Tryd.func24, Tryd.ntmps24
  go_wp2
  go_loopw [5] (fun i w' => ∃ k m : Nat, k ≤ n ∧ i = .int .i64 k ∧ w' = w.drewN m) (fun i _ => n - (intOf i).toNat)
  case atStart => exact ⟨0, 0, by omega, rfl, rfl⟩
  case round =>
    obtain ⟨k, m, hk, rfl, rfl⟩ := hrel
    by_cases hlt : k < n
    · have hkl : k < l.length := by rw [← HN.out]; exact hlt
      have a0 := text_cell HA.out hkl
      have b0 := text_cell HB.out hkl
      generalize l[k] = t at a0 b0
      clear hkl HA HB HN
      go_wp2
      go_quiet (fail)
      go_wp2
      go_roundw
      case rel => exact ⟨k + 1, _, by omega, by go_num, rfl⟩
      case measure => simp [intOf]; omega
    · go_wp2
      go_ret
      exact ⟨rfl, (by repeat (first | (with_reducible exact Gr.refl _) | (with_reducible refine Gr.alloc ?_ _) | (with_reducible refine Gr.drewN ?_ _) | (with_reducible refine Gr.drew ?_) | (with_reducible refine Gr.later ?_ _ _)))⟩
/-- Both rows whatever they are. -/
theorem texts_calls (l : List ByteArray) (w : World) (Ba Bb : Nat) (va vb : Value) (hn : l.length ≤ 1048576) (ha : w.ownsRow Ba 9 1 va l.length (textCells l)) (hb : w.ownsRow Bb 9 1 vb l.length (textCells l)) :
    Calls Tryd.prog 24 #[va, vb] w fun e w' => e = .returned (.bool true) ∧ Gr w w' := by
  rcases Nat.eq_zero_or_pos l.length with h0 | h0
  · have shape : ∀ {B : Nat} {v : Value}, w.ownsRow B 9 1 v l.length (textCells l) → ∃ ao c, v = .slice ao 0 c := fun h => by
      rcases h.2 with ⟨rfl, _⟩ | ⟨g, cap, cur, rfl, _⟩
      · exact ⟨_, _, rfl⟩
      · exact ⟨_, _, by rw [h0]⟩
    obtain ⟨ao, ca, rfl⟩ := shape ha
    obtain ⟨bo, cb, rfl⟩ := shape hb
    exact texts_none w ao bo ca cb
  · obtain ⟨ga, ca, rfl, _, _⟩ := ha.form h0
    obtain ⟨gb, cb, rfl, _, _⟩ := hb.form h0
    exact texts_some l w ga gb ca cb Ba Bb hn ha hb
end Go.Proofs.YthbjagmlcemefaaDoor
