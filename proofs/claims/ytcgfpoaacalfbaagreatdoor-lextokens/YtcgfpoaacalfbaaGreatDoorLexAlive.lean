/- The answers that the statements of layer 3 hold fixed. -/
import Derived.Test.YtcgfpoaacalfbaaGreatDoorErrIs
import Derived.Test.YtcgfpoaacalfbaaGreatDoorLexAlivePlain
import Derived.Test.YtcgfpoaacalfbaaGreatDoorLexProgTokens
import Derived.Test.YtcgfpoaacalfbaaGreatDoorLexProgName
import Derived.Test.YtcgfpoaacalfbaaGreatDoorLexProgLine
import Derived.Laws.OwnMore
namespace Go.Proofs.YtcgfpoaacalfbaaGreatDoor
open Go.RowKit
attribute [local go_sem] later_size later_cell later_frozen later_setCell later_drew later_drewN later_tape drewN_setCell drewN_alloc drewN_later later_later lt_more lt_more1 lt_more2 lt_more3 lt_more4 lk0_0_1 lk1_0_1 lk2_0_1 lk0_0_2 lk1_0_2 lk2_0_2 lk0_1_2 lk0_0_3 lk1_0_3 lk2_0_3 lk0_1_3 lk0_2_3 lk0_0_4 lk1_0_4 lk2_0_4 lk0_1_4 lk0_2_4 lk0_3_4 lk0_0_5 lk1_0_5 lk2_0_5 lk0_1_5 lk0_2_5 lk0_3_5 lk0_4_5 lk0_0_6 lk1_0_6 lk2_0_6 lk0_1_6 lk0_2_6 lk0_3_6 lk0_4_6 lk0_5_6 lk0_0_7 lk1_0_7 lk2_0_7 lk0_1_7 lk0_2_7 lk0_3_7 lk0_4_7 lk0_5_7 lk0_6_7
/-- Old cells and marks behind a call that makes memory alone. -/
theorem bcell {W w1 : World} (hb : Below W.heap.size W w1) : (∀ b o, b < W.heap.size → w1.cell? ⟨b, o, none⟩ = W.cell? ⟨b, o, none⟩) ∧ (∀ b o, b < W.heap.size → w1.frozen? ⟨b, o, none⟩ = W.frozen? ⟨b, o, none⟩) :=
  ⟨fun b o h => hb.cell (p := ⟨b, o, none⟩) h, fun b o h => hb.frozen (p := ⟨b, o, none⟩) h⟩
theorem wrong2 : (if (lexOf src2).2.2 = 0 then Value.nilIface else wrongVal (lexOf src2).2.1 (lexOf src2).2.2) = .iface 62 (.agg #[.int .i64 6, .int .i64 30]) := by rw [lex2]; rfl
set_option maxHeartbeats 3200000 in
theorem alive_calls (w : World) (hr : RangeVar w) : Calls Tryz.prog 4 #[] w fun e w' => e = .returned (.bool true) ∧ Below w.heap.size w w' := by
  have HR : Hid (RangeVar w) := hr
  have HA := lexTokens_calls src1 w (by decide) hr
  clear hr
  rw [lex1] at HA
  go_enter Tryz.func4, Tryz.ntmps4
  go_wp2_with fail
  refine HA.mono ?_
  rintro e w1 ⟨v, rfl, ho, hb1⟩
  clear HA
  obtain ⟨g, cap, rfl, hg0, hg1⟩ := ho.form (by decide)
  have c12 := ho.cellAt 12 (by decide)
  have c13 := ho.cellAt 13 (by decide)
  have c14 := ho.cellAt 14 (by decide)
  have c15 := ho.cellAt 15 (by decide)
  have c16 := ho.cellAt 16 (by decide)
  have c17 := ho.cellAt 17 (by decide)
  have c18 := ho.cellAt 18 (by decide)
  have c19 := ho.cellAt 19 (by decide)
  have c24 := ho.cellAt 24 (by decide)
  have c25 := ho.cellAt 25 (by decide)
  have c26 := ho.cellAt 26 (by decide)
  have c27 := ho.cellAt 27 (by decide)
  simp only [toksCells, tokCells, List.flatMap_cons, List.flatMap_nil, List.cons_append, List.nil_append, List.append_nil] at c12 c13 c14 c15 c16 c17 c18 c19 c24 c25 c26 c27
  simp at c12 c13 c14 c15 c16 c17 c18 c19 c24 c25 c26 c27
  clear ho
  have HB := lexTokens_calls src2 w1 (by decide) (RangeVar.below HR.out hb1)
  clear HR
  rw [wrong2] at HB
  go_wp2_with fail
  refine HB.mono ?_
  rintro e w2 ⟨v2, rfl, -, hb2⟩
  clear HB
  have HL := lexLine_calls ⟨#[97, 10, 98]⟩ 2 w2 (by decide) (by decide) (by decide)
  go_wp2_with fail
  refine HL.mono ?_
  rintro e w3 ⟨rfl, hb3⟩
  clear HL
  have hb13 : Below w1.heap.size w1 w3 := hb2.trans (hb3.mono hb2.size)
  have hb03 : Below w.heap.size w w3 := hb1.trans (hb13.mono hb1.size)
  rw [← hb13.cell (p := ⟨g, 12, none⟩) hg1] at c12
  rw [← hb13.cell (p := ⟨g, 13, none⟩) hg1] at c13
  rw [← hb13.cell (p := ⟨g, 14, none⟩) hg1] at c14
  rw [← hb13.cell (p := ⟨g, 15, none⟩) hg1] at c15
  rw [← hb13.cell (p := ⟨g, 16, none⟩) hg1] at c16
  rw [← hb13.cell (p := ⟨g, 17, none⟩) hg1] at c17
  rw [← hb13.cell (p := ⟨g, 18, none⟩) hg1] at c18
  rw [← hb13.cell (p := ⟨g, 19, none⟩) hg1] at c19
  rw [← hb13.cell (p := ⟨g, 24, none⟩) hg1] at c24
  rw [← hb13.cell (p := ⟨g, 25, none⟩) hg1] at c25
  rw [← hb13.cell (p := ⟨g, 26, none⟩) hg1] at c26
  rw [← hb13.cell (p := ⟨g, 27, none⟩) hg1] at c27
  have H03 : Hid _ := hb03
  clear hb1 hb2 hb3 hb13 hb03
  have e1 : linesTo ⟨#[97, 10, 98]⟩ (ahead ⟨#[97, 10, 98]⟩ 2) = 2 := by decide
  have e2 : columnTo ⟨#[97, 10, 98]⟩ (ahead ⟨#[97, 10, 98]⟩ 2) = 1 := by decide
  rw [e1, e2]
  clear e1 e2
  go_wp2_with fail
  clear c12 c13 c14 c15 c16 c17 c18 c19 c24 c25 c26 c27
  refine (is_calls 6 30 30 w3).mono ?_
  rintro e w4 ⟨rfl, hg4⟩
  have H04 : Hid (Below w.heap.size w w4) := H03.out.trans (hg4.below.mono H03.out.size)
  clear hg4 H03
  have HW := lexWord_calls ⟨#[102, 98, 121]⟩ w4 (by unfold maxLen; decide)
  rw [show wordB ⟨#[102, 98, 121]⟩ = true from by decide] at HW
  go_wp2_with fail
  refine HW.mono ?_
  rintro e w5 ⟨rfl, hb5⟩
  have H05 : Hid (Below w.heap.size w w5) := H04.out.trans (hb5.mono H04.out.size)
  clear hb5 H04 HW
  have HN := lexName_calls ⟨#[120]⟩ w5 (by decide)
  rw [show nameB ⟨#[120]⟩ = true from by decide] at HN
  go_wp2_with fail
  refine HN.mono ?_
  rintro e w6 ⟨rfl, hb6⟩
  have H06 : Hid (Below w.heap.size w w6) := H05.out.trans (hb6.mono H05.out.size)
  clear hb6 H05 HN
  go_wp2_with fail
  go_ret
  exact ⟨rfl, H06.out⟩
end Go.Proofs.YtcgfpoaacalfbaaGreatDoor
