/- The statement LexApart's own blanks. -/
import Derived.Test.YtcgfpoaacalfbaaDoorLexAlive
import Derived.Test.YtcgfpoaacalfbaaDoorLexRow
import Derived.Test.YtcgfpoaacalfbaaDoorLexApartSum
namespace Go.Proofs.YtcgfpoaacalfbaaDoor.lexApart
open Go.RowKit
attribute [local go_sem] later_size later_cell later_frozen later_setCell later_drew later_drewN later_tape drewN_setCell drewN_alloc drewN_later later_later lt_more lt_more1 lt_more2 lt_more3 lt_more4 lk0_0_1 lk1_0_1 lk2_0_1 lk0_0_2 lk1_0_2 lk2_0_2 lk0_1_2 lk0_0_3 lk1_0_3 lk2_0_3 lk0_1_3 lk0_2_3 lk0_0_4 lk1_0_4 lk2_0_4 lk0_1_4 lk0_2_4 lk0_3_4 lk0_0_5 lk1_0_5 lk2_0_5 lk0_1_5 lk0_2_5 lk0_3_5 lk0_4_5 lk0_0_6 lk1_0_6 lk2_0_6 lk0_1_6 lk0_2_6 lk0_3_6 lk0_4_6 lk0_5_6 lk0_0_7 lk1_0_7 lk2_0_7 lk0_1_7 lk0_2_7 lk0_3_7 lk0_4_7 lk0_5_7 lk0_6_7
/-- The blanks that a number names. -/
def blankOf (z : Int) : List UInt8 := blankList[(z % 6).toNat]?.getD [32]
theorem blankOf_mem (z : Int) : blankOf z ∈ blankList := by
  unfold blankOf
  have h : (z % 6).toNat < blankList.length := by show _ < 6; omega
  rw [List.getElem?_eq_getElem h]
  exact List.getElem_mem _
def blanksObj : Obj := .cells #[.string ⟨#[32]⟩, .string ⟨#[10]⟩, .string ⟨#[9, 32]⟩, .string ⟨#[13, 10]⟩, .string ⟨#[32, 45, 45, 32, 120, 10]⟩, .string ⟨#[32, 45, 45, 10, 45, 45, 121, 32, 122, 10]⟩] 9
set_option maxHeartbeats 1600000 in
theorem blanks_calls (z : Int) (w : World) (h0 : 0 ≤ z) (h1 : z ≤ 255) : Calls Tryd.prog 15 #[.int .u8 z] w fun e w' => e = .returned (.string ⟨(blankOf z).toArray⟩) ∧ w' = w.alloc blanksObj := by
  have HB : Hid (blankOf z = blankList[(z % 6).toNat]?.getD [32]) := rfl
  obtain ⟨r, hr⟩ : ∃ r, z % 6 = r := ⟨_, rfl⟩
  have hr0 : 0 ≤ r ∧ r < 6 := by omega
  rw [hr] at HB
  have hc : r = 0 ∨ r = 1 ∨ r = 2 ∨ r = 3 ∨ r = 4 ∨ r = 5 := by omega
  rcases hc with rfl | rfl | rfl | rfl | rfl | rfl
  all_goals
    clear hr0
    go_enter Tryd.func15, Tryd.ntmps15
    go_wp2
    go_ret
    refine ⟨?_, rfl⟩
    rw [HB.out]
    rfl
end Go.Proofs.YtcgfpoaacalfbaaDoor.lexApart
