/- The document's answer of layer 4: Literal. -/
import Derived.Test.YthbjagmlcemefaaDoorExShapes
namespace Go.Proofs.YthbjagmlcemefaaDoor
open Go.RowKit
open Ex.size Ex.depth Ex.lies Ex.bulk Ex.good Ex.shape
attribute [local go_sem] later_size later_cell later_frozen later_setCell later_drew later_drewN later_tape drewN_setCell drewN_alloc drewN_later later_later lt_more lt_more1 lt_more2 lt_more3 lt_more4 lk0_0_1 lk1_0_1 lk2_0_1 lk0_0_2 lk1_0_2 lk2_0_2 lk0_1_2 lk0_0_3 lk1_0_3 lk2_0_3 lk0_1_3 lk0_2_3 lk0_0_4 lk1_0_4 lk2_0_4 lk0_1_4 lk0_2_4 lk0_3_4 lk0_0_5 lk1_0_5 lk2_0_5 lk0_1_5 lk0_2_5 lk0_3_5 lk0_4_5 lk0_0_6 lk1_0_6 lk2_0_6 lk0_1_6 lk0_2_6 lk0_3_6 lk0_4_6 lk0_5_6 lk0_0_7 lk1_0_7 lk2_0_7 lk0_1_7 lk0_2_7 lk0_3_7 lk0_4_7 lk0_5_7 lk0_6_7
/-- What stands behind a minus: a number? -/
def negOf : List Ex → Option Int
  | (.mk kd _ _ it _ _ _ _) :: _ => if kd = 2 then some it else none
  | [] => none
def litKind (kd it : Int) (l : List Ex) : Int × Int × Bool :=
  if kd = 2 then (it, 1, true) else if kd = 3 then (it, 2, true) else if kd = 5 then (match negOf l with | some x => (-x, 1, true) | none => (0, 0, false)) else (0, 0, false)
/-- The literal that it is. -/
def Ex.lit : Ex → Int × Int × Bool
  | .mk kd pl nm it dn a cap l => if (Ex.mk kd pl nm it dn a cap l).shape = true then litKind kd it l else (0, 0, false)
theorem lit_ret {a a' b b' : Int} {c c' : Bool} (h : (a, b, c) = (a', b', c')) : Ending.returned (.tuple #[.int .i64 a, .int .u8 b, .bool c]) = .returned (.tuple #[.int .i64 a', .int .u8 b', .bool c']) := by
  cases h
  rfl
end Go.Proofs.YthbjagmlcemefaaDoor
