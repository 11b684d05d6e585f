/- The statements' own weight of an expression: Heavy. -/
import Derived.Test.YtbahpbinilnfoaaDoorExOpen
import Derived.Test.YtbahpbinilnfoaaDoorExSizes
namespace Go.Proofs.YtbahpbinilnfoaaDoor
open Go.RowKit
open Ex.size Ex.depth Ex.lies Ex.bulk Ex.good
attribute [local go_sem] later_size later_cell later_frozen later_setCell later_drew later_drewN later_tape drewN_setCell drewN_alloc drewN_later later_later lt_more lt_more1 lt_more2 lt_more3 lt_more4 lk0_0_1 lk1_0_1 lk2_0_1 lk0_0_2 lk1_0_2 lk2_0_2 lk0_1_2 lk0_0_3 lk1_0_3 lk2_0_3 lk0_1_3 lk0_2_3 lk0_0_4 lk1_0_4 lk2_0_4 lk0_1_4 lk0_2_4 lk0_3_4 lk0_0_5 lk1_0_5 lk2_0_5 lk0_1_5 lk0_2_5 lk0_3_5 lk0_4_5 lk0_0_6 lk1_0_6 lk2_0_6 lk0_1_6 lk0_2_6 lk0_3_6 lk0_4_6 lk0_5_6 lk0_0_7 lk1_0_7 lk2_0_7 lk0_1_7 lk0_2_7 lk0_3_7 lk0_4_7 lk0_5_7 lk0_6_7
def Ex.weigh : Ex → Nat
  | .mk _ _ nm _ _ _ _ l => weighs (1 + nm.size / 16) l
where weighs : Nat → List Ex → Nat
  | n, [] => n
  | n, e :: r => if n ≤ 8192 then weighs (n + e.weigh) r else n
open Ex.weigh
theorem weighs_ge (l : List Ex) (n : Nat) : n ≤ weighs n l := by
  induction l generalizing n with
  | nil => simp [weighs]
  | cons e r ih =>
    simp only [weighs]
    split
    · have := ih (n + e.weigh)
      omega
    · omega
theorem weigh_le : ∀ e : Ex, e.weigh ≤ e.bulk
  | .mk _ _ nm _ _ _ _ l => by
    have := all l (1 + nm.size / 16)
    simp only [Ex.weigh, Ex.bulk]
    omega
where all : ∀ (l : List Ex) (n : Nat), weighs n l ≤ n + bulks l
  | [], n => by simp [weighs, bulks]
  | e :: r, n => by
    have h1 := weigh_le e
    have h2 := all r (n + e.weigh)
    simp only [weighs, bulks]
    split <;> omega
theorem weighs_le (l : List Ex) (n : Nat) : weighs n l ≤ n + bulks l := weigh_le.all l n
theorem size_bulk : ∀ e : Ex, e.size ≤ e.bulk
  | .mk _ _ _ _ _ _ _ l => by
    have := all l
    simp only [Ex.size, Ex.bulk]
    omega
where all : ∀ l : List Ex, sizes l ≤ bulks l
  | [] => by simp [sizes, bulks]
  | e :: r => by
    have h1 := size_bulk e
    have h2 := all r
    simp only [sizes, bulks]
    omega
theorem sizes_bulk (l : List Ex) : sizes l ≤ bulks l := size_bulk.all l
theorem bulk_arg {l : List Ex} {i : Nat} (h : i < l.length) : l[i].bulk ≤ bulks l := by
  induction l generalizing i with
  | nil => simp at h
  | cons e r ih =>
    cases i with
    | zero => simp [bulks]
    | succ i =>
      have := ih (i := i) (by simpa using h)
      simp only [bulks, List.getElem_cons_succ]
      omega
theorem len_sizes (l : List Ex) : l.length ≤ sizes l := by
  induction l with
  | nil => simp
  | cons e r ih => have := size_pos e; simp only [List.length_cons, sizes]; omega
/-- Is it more than a statement looks at? -/
def heavyB (e : Ex) : Bool := decide (8192 < e.weigh)
end Go.Proofs.YtbahpbinilnfoaaDoor
