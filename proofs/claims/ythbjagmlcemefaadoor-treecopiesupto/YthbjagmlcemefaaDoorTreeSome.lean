/- The statements' own small tree: x + f(1, y). -/
import Derived.Test.YthbjagmlcemefaaDoorTreeSame
import Derived.Test.YthbjagmlcemefaaDoorTreeMay
import Derived.Test.YthbjagmlcemefaaDoorTreeLit
import Derived.Test.YthbjagmlcemefaaDoorTreeCalls
namespace Go.Proofs.YthbjagmlcemefaaDoor
open Go.RowKit
open Ex.size Ex.depth Ex.lies Ex.bulk Ex.good Ex.same Ex.shape Ex.calls
attribute [local go_sem] later_size later_cell later_frozen later_setCell later_drew later_drewN later_tape drewN_setCell drewN_alloc drewN_later later_later lt_more lt_more1 lt_more2 lt_more3 lt_more4 lk0_0_1 lk1_0_1 lk2_0_1 lk0_0_2 lk1_0_2 lk2_0_2 lk0_1_2 lk0_0_3 lk1_0_3 lk2_0_3 lk0_1_3 lk0_2_3 lk0_0_4 lk1_0_4 lk2_0_4 lk0_1_4 lk0_2_4 lk0_3_4 lk0_0_5 lk1_0_5 lk2_0_5 lk0_1_5 lk0_2_5 lk0_3_5 lk0_4_5 lk0_0_6 lk1_0_6 lk2_0_6 lk0_1_6 lk0_2_6 lk0_3_6 lk0_4_6 lk0_5_6 lk0_0_7 lk1_0_7 lk2_0_7 lk0_1_7 lk0_2_7 lk0_3_7 lk0_4_7 lk0_5_7 lk0_6_7
def xEx : Ex := ⟨1, 0, ⟨#[120]⟩, 0, 0, none, 0, []⟩
def yEx : Ex := ⟨1, 0, ⟨#[121]⟩, 0, 0, none, 0, []⟩
def oneEx : Ex := ⟨2, 0, ⟨#[]⟩, 1, 0, none, 0, []⟩
def fEx (k : Nat) : Ex := ⟨4, 0, ⟨#[102]⟩, 0, 0, some ⟨k + 1, 0, none⟩, 2, [oneEx, yEx]⟩
def someEx (k : Nat) : Ex := ⟨7, 0, ⟨#[]⟩, 0, 0, some ⟨k + 2, 0, none⟩, 2, [xEx, fEx k]⟩
theorem some_size (k : Nat) : (someEx k).size = 5 := rfl
theorem some_depth (k : Nat) : (someEx k).depth = 3 := rfl
theorem some_bulk (k : Nat) : (someEx k).bulk = 8 := rfl
theorem some_calls (k : Nat) : (someEx k).calls = [⟨#[102]⟩] := rfl
theorem some_good (k : Nat) : (someEx k).good :=
  ⟨⟨by decide, by decide, by decide, by decide, by decide, Nat.le_refl 2, by decide⟩, ⟨⟨by decide, by decide, by decide, by decide, by decide, by decide, by decide⟩, trivial⟩, ⟨⟨by decide, by decide, by decide, by decide, by decide, by decide, by decide⟩, ⟨⟨by decide, by decide, by decide, by decide, by decide, by decide, by decide⟩, trivial⟩, ⟨⟨by decide, by decide, by decide, by decide, by decide, by decide, by decide⟩, trivial⟩, trivial⟩, trivial⟩
theorem some_same (k k' : Nat) : (someEx k).same (someEx k') = true := by simp [someEx, xEx, fEx, oneEx, yEx, Ex.same, sames]
theorem some_not (k : Nat) : (someEx k).same xEx = false := by simp [someEx, xEx, Ex.same]
theorem six {P : Nat → Prop} (h0 : P 0) (h1 : P 1) (h2 : P 2) (h3 : P 3) (h4 : P 4) (h5 : P 5) : ∀ j, j < 6 → P j := fun j hj => by
  have : j = 0 ∨ j = 1 ∨ j = 2 ∨ j = 3 ∨ j = 4 ∨ j = 5 := by omega
  rcases this with rfl | rfl | rfl | rfl | rfl | rfl <;> assumption
theorem cells_at {w : World} {xs : Array Value} {t : TypeId} {k o : Nat} {e : Ex} (hk : k = w.heap.size) (h : ∀ j, j < 6 → xs[o + j]? = e.cells[j]?) : ∀ j, j < 6 → (w.alloc (.cells xs t)).cell? ⟨k, o + j, none⟩ = e.cells[j]? := fun j hj => by
  rw [hk, World.cell?_alloc_at _ _ _ _ rfl]
  exact h j hj
theorem x_lies (w : World) : xEx.lies w := ⟨0, 0, fun h => absurd rfl h, trivial⟩
theorem leaf_lies (w : World) (kd pl : Int) (nm : ByteArray) (it dn : Int) : Ex.lies w ⟨kd, pl, nm, it, dn, none, 0, []⟩ := ⟨0, 0, fun h => absurd rfl h, trivial⟩
set_option maxRecDepth 100000 in
set_option maxHeartbeats 1600000 in
theorem some_made (w : World) : Calls Tryd.prog 35 #[] w fun x w' => x = .returned (someEx w.heap.size).val ∧ (someEx w.heap.size).lies w' ∧ Below w.heap.size w w' := by
  go_enter Tryd.func35, Tryd.ntmps35
  go_wp2
  refine bodyPost_ret (by simp [results, Tryd.results35, go_sem, *]; try rfl) rfl ?_
  refine ⟨rfl, ⟨w.heap.size + 2, 0, fun _ => rfl, ?_, x_lies _, ?_, ⟨w.heap.size + 1, 0, fun _ => rfl, ?_, leaf_lies _ _ _ _ _ _, ?_, leaf_lies _ _ _ _ _ _, trivial⟩, trivial⟩, ?_⟩
  · refine cells_at (by simp) ?_
    exact six rfl rfl rfl rfl rfl rfl
  · refine cells_at (by simp) ?_
    exact six rfl rfl rfl rfl rfl rfl
  · intro j hj
    rw [World.cell?_alloc_past _ _ _ (by simp)]
    refine cells_at (by simp) ?_ j hj
    exact six rfl rfl rfl rfl rfl rfl
  · intro j hj
    rw [World.cell?_alloc_past _ _ _ (by simp)]
    refine cells_at (by simp) ?_ j hj
    exact six rfl rfl rfl rfl rfl rfl
  · exact (((Below.refl _ _).alloc (Nat.le_refl _) _).alloc (by simp) _).alloc (by simp; omega) _
end Go.Proofs.YthbjagmlcemefaaDoor
