/- The document's answer of layer 5: sign. -/
import Derived.Test.YtbahpbinilnfoaaDoorShowRead
import Derived.WalkKit
namespace Go.Proofs.YtbahpbinilnfoaaDoor
open Go.RowKit
/-- A sign without its blanks. -/
def sgn (k : Int) : List UInt8 := if k = 7 then [43] else if k = 8 then [45] else if k = 9 then [42] else if k = 10 then [47] else if k = 11 then [37] else if k = 12 then [61] else if k = 13 then [60, 62] else if k = 14 then [60] else if k = 15 then [60, 61] else if k = 16 then [62] else if k = 17 then [62, 61] else if k = 18 then [97, 110, 100] else [111, 114]
theorem sign_sgn (k : Int) (h : 7 ≤ k) (h1 : k ≤ 19) : signOf k = [32] ++ (sgn k ++ [32]) := by
  have : k = 7 ∨ k = 8 ∨ k = 9 ∨ k = 10 ∨ k = 11 ∨ k = 12 ∨ k = 13 ∨ k = 14 ∨ k = 15 ∨ k = 16 ∨ k = 17 ∨ k = 18 ∨ k = 19 := by omega
  rcases this with rfl | rfl | rfl | rfl | rfl | rfl | rfl | rfl | rfl | rfl | rfl | rfl | rfl <;> rfl
theorem sgn_len (k : Int) : (sgn k).length ≤ 5 := by
  have hi : ∀ (p : Prop) [Decidable p] {a b : List UInt8}, a.length ≤ 5 → b.length ≤ 5 → (if p then a else b).length ≤ 5 := fun p _ a b ha hb => by
    by_cases h : p
    · rw [if_pos h]; exact ha
    · rw [if_neg h]; exact hb
  unfold sgn
  repeat refine hi _ (by decide) ?_
  decide
set_option maxRecDepth 100000 in
set_option maxHeartbeats 6400000 in
theorem sign_ref (kd : Int) (h0 : 7 ≤ kd) (h1 : kd ≤ 19) (w : World) : Calls Tryd.prog 51 #[.int .u8 kd] w fun e w' => e = .returned (.string ⟨(sgn kd).toArray⟩) ∧ Below w.heap.size w w' := by
  have : kd = 7 ∨ kd = 8 ∨ kd = 9 ∨ kd = 10 ∨ kd = 11 ∨ kd = 12 ∨ kd = 13 ∨ kd = 14 ∨ kd = 15 ∨ kd = 16 ∨ kd = 17 ∨ kd = 18 ∨ kd = 19 := by omega
  rcases this with rfl | rfl | rfl | rfl | rfl | rfl | rfl | rfl | rfl | rfl | rfl | rfl | rfl
  all_goals
    go_enter Tryd.func51, Tryd.ntmps51
    go_wp2
    go_ret
    exact ⟨rfl, (Below.refl _ _).alloc (Nat.le_refl _) _⟩
end Go.Proofs.YtbahpbinilnfoaaDoor
