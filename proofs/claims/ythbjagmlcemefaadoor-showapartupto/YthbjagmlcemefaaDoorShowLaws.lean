/- The statements ShowExprs and ShowApart, walked. -/
import Derived.Test.YthbjagmlcemefaaDoorShowAlive
import Derived.Test.YthbjagmlcemefaaDoorRefExpr
namespace Go.Proofs.YthbjagmlcemefaaDoor
open Go.RowKit
open Ex.size Ex.depth Ex.lies Ex.bulk Ex.good Ex.shape Ex.text
attribute [local go_sem] later_size later_cell later_frozen later_setCell later_drew later_drewN later_tape drewN_setCell drewN_alloc drewN_later later_later lt_more lt_more1 lt_more2 lt_more3 lt_more4 lk0_0_1 lk1_0_1 lk2_0_1 lk0_0_2 lk1_0_2 lk2_0_2 lk0_1_2 lk0_0_3 lk1_0_3 lk2_0_3 lk0_1_3 lk0_2_3 lk0_0_4 lk1_0_4 lk2_0_4 lk0_1_4 lk0_2_4 lk0_3_4 lk0_0_5 lk1_0_5 lk2_0_5 lk0_1_5 lk0_2_5 lk0_3_5 lk0_4_5 lk0_0_6 lk1_0_6 lk2_0_6 lk0_1_6 lk0_2_6 lk0_3_6 lk0_4_6 lk0_5_6 lk0_0_7 lk1_0_7 lk2_0_7 lk0_1_7 lk0_2_7 lk0_3_7 lk0_4_7 lk0_5_7 lk0_6_7
theorem box_keep {W : World} {k : Nat} {c : Array Value} {T : TypeId} (h : W.heap[k]? = some (.cells c T (0, 0))) {w' : World} (hb : Below W.heap.size W w') : ∀ j, w'.cell? ⟨k, j, none⟩ = c[j]? := fun j => cell_of_row ((hb.block _ (lt_of_block h)).trans h) j
set_option maxRecDepth 100000 in
set_option maxHeartbeats 12800000 in
theorem exprs_walk (e : Ex) (hb : e.bulk ≤ 1048576) (hg : e.good) (w : World) (hl : e.lies w) (ht : Tabs w) : Calls Tryd.prog 6 #[e.val] w fun x w' => x = .returned (.bool true) ∧ Below w.heap.size w w' := by
  obtain ⟨W0, hW0⟩ : ∃ W0 : World, W0 = w.alloc (.cells e.cells.toArray 33) := ⟨_, rfl⟩
  have hb0 : Below w.heap.size w W0 := by rw [hW0]; exact (Below.refl _ _).alloc (Nat.le_refl _) _
  have HS0 : Hid (W0.heap.size = w.heap.size + 1) := by rw [Hid, hW0]; simp
  have hbx : W0.heap[w.heap.size]? = some (.cells e.cells.toArray 33 (0, 0)) := by rw [hW0]; exact heap_at rfl
  have hl0 := lies_below hb0 e hl
  have ht0 := ht.below hb0
  have CH := heavy_calls e hb W0 hl0
  have HA : Hid (∀ w', Below W0.heap.size W0 w' → Calls Tryd.prog 27 #[] w' fun x w'' => x = .returned (.bool true) ∧ Below w'.heap.size w' w'') := fun w' h => show_alive w' (ht0.below h)
  have HP : Hid (∀ w', Below W0.heap.size W0 w' → Calls Tryd.prog 28 #[e.val] w' fun x w'' => x = .returned (.tuple #[.string (exprOut e).1, .int .i64 (exprOut e).2]) ∧ Below w'.heap.size w' w'') := fun w' h => expr_tabs e hb hg w' (lies_below h e hl0) (ht0.below h)
  have HR : Hid (∀ w', Below W0.heap.size W0 w' → Calls Tryd.prog 29 #[e.val] w' fun x w'' => x = .returned (.tuple #[.string (exprOut e).1, .int .i64 (exprOut e).2]) ∧ Below w'.heap.size w' w'') := fun w' h => expr_ref e hb hg w' (lies_below h e hl0)
  have HB0 : Hid _ := hb0
  have HE0 : Hid _ := hW0
  have HBX : Hid (∀ w', Below W0.heap.size W0 w' → ∀ j, w'.cell? ⟨w.heap.size, j, none⟩ = e.cells.toArray[j]?) := fun w' h => box_keep hbx h
  generalize exprOut e = o at *
  obtain ⟨o1, o2⟩ := o
  generalize heavyB e = hv at *
  clear hb0 hW0 hl0 ht0 hl ht hg hb hbx
  obtain ⟨kd, pl, nm, it, dn, a, cap, l⟩ := e
  obtain ⟨n, hn⟩ : ∃ n, n = l.length := ⟨_, rfl⟩
  simp only [Ex.val, Ex.cells, List.toArray, ← hn] at CH HP HR HE0 HBX ⊢
  clear hn
  go_enter Tryd.func6, Tryd.ntmps6
  go_wp2_with fail
  rw [← HE0.out]
  refine CH.mono ?_
  rintro x w1 ⟨rfl, hb1⟩
  have K1 : Hid (Below W0.heap.size W0 w1) := hb1
  clear CH hb1
  cases hv
  · have bx := HBX.out w1 K1.out
    have c0 : w1.cell? ⟨w.heap.size, 0, none⟩ = some (.int .u8 kd) := by rw [bx]; rfl
    have c1 : w1.cell? ⟨w.heap.size, 1, none⟩ = some (.int .i64 pl) := by rw [bx]; rfl
    have c2 : w1.cell? ⟨w.heap.size, 2, none⟩ = some (.string nm) := by rw [bx]; rfl
    have c3 : w1.cell? ⟨w.heap.size, 3, none⟩ = some (.int .i64 it) := by rw [bx]; rfl
    have c4 : w1.cell? ⟨w.heap.size, 4, none⟩ = some (.int .i64 dn) := by rw [bx]; rfl
    have c5 : w1.cell? ⟨w.heap.size, 5, none⟩ = some (.slice a n cap) := by rw [bx]; rfl
    clear bx
    have C2 := HP.out w1 K1.out
    go_wp2_with fail
    refine C2.mono ?_
    rintro x w2 ⟨rfl, hb2⟩
    have K2 : Hid (Below W0.heap.size W0 w2) := K1.out.trans (hb2.mono K1.out.size)
    clear C2 hb2 c0 c1 c2 c3 c4 c5
    have bx := HBX.out w2 K2.out
    have c0 : w2.cell? ⟨w.heap.size, 0, none⟩ = some (.int .u8 kd) := by rw [bx]; rfl
    have c1 : w2.cell? ⟨w.heap.size, 1, none⟩ = some (.int .i64 pl) := by rw [bx]; rfl
    have c2 : w2.cell? ⟨w.heap.size, 2, none⟩ = some (.string nm) := by rw [bx]; rfl
    have c3 : w2.cell? ⟨w.heap.size, 3, none⟩ = some (.int .i64 it) := by rw [bx]; rfl
    have c4 : w2.cell? ⟨w.heap.size, 4, none⟩ = some (.int .i64 dn) := by rw [bx]; rfl
    have c5 : w2.cell? ⟨w.heap.size, 5, none⟩ = some (.slice a n cap) := by rw [bx]; rfl
    clear bx
    have C3 := HR.out w2 K2.out
    go_wp2_with fail
    refine C3.mono ?_
    rintro x w3 ⟨rfl, hb3⟩
    have K3 : Hid (Below W0.heap.size W0 w3) := K2.out.trans (hb3.mono K2.out.size)
    clear C3 hb3 c0 c1 c2 c3 c4 c5
    have C4 := HA.out w3 K3.out
    go_wp2_with fail
    refine C4.mono ?_
    rintro x w4 ⟨rfl, hb4⟩
    have K4 : Hid (Below W0.heap.size W0 w4) := K3.out.trans (hb4.mono K3.out.size)
    clear C4 hb4
    go_wp2_with fail
    go_ret
    exact ⟨rfl, HB0.out.trans (K4.out.mono (by have := HS0.out; omega))⟩
  · have C2 := HA.out w1 K1.out
    go_wp2_with fail
    refine C2.mono ?_
    rintro x w2 ⟨rfl, hb2⟩
    have K2 : Hid (Below W0.heap.size W0 w2) := K1.out.trans (hb2.mono K1.out.size)
    clear C2 hb2
    go_wp2_with fail
    go_ret
    exact ⟨rfl, HB0.out.trans (K2.out.mono (by have := HS0.out; omega))⟩
end Go.Proofs.YthbjagmlcemefaaDoor
