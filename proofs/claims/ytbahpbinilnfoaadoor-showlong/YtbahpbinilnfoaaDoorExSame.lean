/- The document's answer of layer 4: Same. -/
import Derived.Test.YtbahpbinilnfoaaDoorExWeigh
import Derived.Deep.RegionHeld3
namespace Go.Proofs.YtbahpbinilnfoaaDoor
open Go.RowKit
open Ex.size Ex.depth Ex.lies Ex.bulk Ex.good
attribute [local go_sem] later_size later_cell later_frozen later_setCell later_drew later_drewN later_tape drewN_setCell drewN_alloc drewN_later later_later lt_more lt_more1 lt_more2 lt_more3 lt_more4 lk0_0_1 lk1_0_1 lk2_0_1 lk0_0_2 lk1_0_2 lk2_0_2 lk0_1_2 lk0_0_3 lk1_0_3 lk2_0_3 lk0_1_3 lk0_2_3 lk0_0_4 lk1_0_4 lk2_0_4 lk0_1_4 lk0_2_4 lk0_3_4 lk0_0_5 lk1_0_5 lk2_0_5 lk0_1_5 lk0_2_5 lk0_3_5 lk0_4_5 lk0_0_6 lk1_0_6 lk2_0_6 lk0_1_6 lk0_2_6 lk0_3_6 lk0_4_6 lk0_5_6 lk0_0_7 lk1_0_7 lk2_0_7 lk0_1_7 lk0_2_7 lk0_3_7 lk0_4_7 lk0_5_7 lk0_6_7
theorem same_ret {a b : Bool} (h : a = b) : Ending.returned (.bool a) = .returned (.bool b) := by rw [h]
/-- The same, but for places? -/
def Ex.same : Ex → Ex → Bool
  | .mk kd _ nm it dn _ _ l, .mk kd' _ nm' it' dn' _ _ l' => (kd == kd') && (nm.toList == nm'.toList) && (it == it') && (dn == dn') && (l.length == l'.length) && sames l l'
where sames : List Ex → List Ex → Bool
  | e :: r, e' :: r' => e.same e' && sames r r'
  | [], _ => true
  | _, [] => true
open Ex.same
theorem sames_at (l l' : List Ex) (i : Nat) (h : i < l.length) (h' : i < l'.length) : sames (l.take (i + 1)) (l'.take (i + 1)) = (sames (l.take i) (l'.take i) && l[i].same l'[i]) := by
  induction l generalizing l' i with
  | nil => simp at h
  | cons e r ih =>
    cases l' with
    | nil => simp at h'
    | cons e' r' =>
      cases i with
      | zero => simp [sames]
      | succ i =>
        have := ih r' i (by simpa using h) (by simpa using h')
        simp only [List.take_succ_cons, sames, List.getElem_cons_succ]
        rw [this, Bool.and_assoc]
theorem sames_false (l l' : List Ex) (i : Nat) (h : i < l.length) (h' : i < l'.length) (g : l[i].same l'[i] = false) : sames l l' = false := by
  induction l generalizing l' i with
  | nil => simp at h
  | cons e r ih =>
    cases l' with
    | nil => simp at h'
    | cons e' r' =>
      cases i with
      | zero => simp only [List.getElem_cons_zero] at g; simp [sames, g]
      | succ i => simp [sames, ih r' i (by simpa using h) (by simpa using h') (by simpa using g)]
end Go.Proofs.YtbahpbinilnfoaaDoor
