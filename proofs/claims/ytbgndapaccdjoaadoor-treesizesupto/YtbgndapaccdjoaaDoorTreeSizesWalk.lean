/- The statement TreeSizes, walked. -/
import Derived.Test.YtbgndapaccdjoaaDoorTreeAlive
namespace Go.Proofs.YtbgndapaccdjoaaDoor
open Go.RowKit
open Ex.size Ex.depth Ex.lies Ex.bulk Ex.good Ex.same Ex.shape Ex.calls
attribute [local go_sem] later_size later_cell later_frozen later_setCell later_drew later_drewN later_tape drewN_setCell drewN_alloc drewN_later later_later lt_more lt_more1 lt_more2 lt_more3 lt_more4 lk0_0_1 lk1_0_1 lk2_0_1 lk0_0_2 lk1_0_2 lk2_0_2 lk0_1_2 lk0_0_3 lk1_0_3 lk2_0_3 lk0_1_3 lk0_2_3 lk0_0_4 lk1_0_4 lk2_0_4 lk0_1_4 lk0_2_4 lk0_3_4 lk0_0_5 lk1_0_5 lk2_0_5 lk0_1_5 lk0_2_5 lk0_3_5 lk0_4_5 lk0_0_6 lk1_0_6 lk2_0_6 lk0_1_6 lk0_2_6 lk0_3_6 lk0_4_6 lk0_5_6 lk0_0_7 lk1_0_7 lk2_0_7 lk0_1_7 lk0_2_7 lk0_3_7 lk0_4_7 lk0_5_7 lk0_6_7
/-- A contract kept apart, by its arguments. -/
structure CallIs (f : Nat) (args : Array Value) (w : World) (Q : Ending → World → Prop) : Prop where
  out : Calls Tryd.prog f args w Q
def BoxS (N : Nat) (W : World) (b : Nat) (kd pl : Int) (nm : ByteArray) (it dn : Int) (sl : Value) (w' : World) : Prop :=
  Hid (Below N W w') ∧ w'.cell? ⟨b, 0, none⟩ = some (.int .u8 kd) ∧ w'.cell? ⟨b, 1, none⟩ = some (.int .i64 pl) ∧ w'.cell? ⟨b, 2, none⟩ = some (.string nm) ∧ w'.cell? ⟨b, 3, none⟩ = some (.int .i64 it) ∧ w'.cell? ⟨b, 4, none⟩ = some (.int .i64 dn) ∧ w'.cell? ⟨b, 5, none⟩ = some sl
theorem boxS_kept {N : Nat} {W : World} {b : Nat} {kd pl : Int} {nm : ByteArray} {it dn : Int} {sl : Value} {w' w'' : World} (h : BoxS N W b kd pl nm it dn sl w') (hN : N = W.heap.size) (hb : Below w'.heap.size w' w'') : BoxS N W b kd pl nm it dn sl w'' := by
  obtain ⟨h0, h1, h2, h3, h4, h5, h6⟩ := h
  have l1 := World.block_lt_of_cell? w' ⟨b, 0, none⟩ h1
  exact ⟨h0.out.trans (hb.mono (by rw [hN]; exact h0.out.size)), (hb.cell (p := ⟨b, 0, none⟩) l1).trans h1, (hb.cell (p := ⟨b, 1, none⟩) l1).trans h2, (hb.cell (p := ⟨b, 2, none⟩) l1).trans h3, (hb.cell (p := ⟨b, 3, none⟩) l1).trans h4, (hb.cell (p := ⟨b, 4, none⟩) l1).trans h5, (hb.cell (p := ⟨b, 5, none⟩) l1).trans h6⟩
set_option maxRecDepth 100000 in
set_option maxHeartbeats 12800000 in
theorem sizes_walk (e : Ex) (he : e.bulk ≤ 1048576) (hg : e.good) (w : World) (hl : e.lies w) (ht : HasTab w) : Calls Tryd.prog 3 #[e.val] w fun x w' => x = .returned (.bool true) ∧ Below w.heap.size w w' := by
  obtain ⟨W0, hW0⟩ : ∃ W0 : World, W0 = w.alloc (.cells e.cells.toArray 24) := ⟨_, rfl⟩
  have hb0 : Below w.heap.size w W0 := by rw [hW0]; exact (Below.refl _ _).alloc (Nat.le_refl _) _
  have hl0 : e.lies W0 := lies_below hb0 _ hl
  have ht0 : HasTab W0 := ht.below hb0
  have hs0 : W0.heap.size = w.heap.size + 1 := by rw [hW0]; simp
  have CH := heavy_calls e he W0 hl0
  have up : ∀ {w'}, Below W0.heap.size W0 w' → e.lies w' := fun h => lies_below h _ hl0
  have HA : Hid (∀ w', Below W0.heap.size W0 w' → Calls Tryd.prog 10 #[] w' fun x w'' => x = .returned (.bool true) ∧ Below w'.heap.size w' w'') := fun w' h => alive_calls w' (ht0.below h)
  have HP : Hid (∀ w', Below W0.heap.size W0 w' → Calls Tryd.prog 11 #[e.val] w' fun x w'' => x = .returned (.tuple #[.int .i64 e.lit.1, .int .u8 e.lit.2.1, .bool e.lit.2.2]) ∧ Below w'.heap.size w' w'') := fun w' h => literal_prog e he hg w' (up h) (ht0.below h)
  have HR : Hid (∀ w', Below W0.heap.size W0 w' → Calls Tryd.prog 12 #[e.val] w' fun x w'' => x = .returned (.tuple #[.int .i64 e.lit.1, .int .u8 e.lit.2.1, .bool e.lit.2.2]) ∧ Below w'.heap.size w' w'') := fun w' h => literal_calls e he hg w' (up h)
  have hsb := size_bulk e
  have H13 : Hid (∀ w', Below W0.heap.size W0 w' → Calls Tryd.prog 13 #[e.val] w' fun x w'' => x = .returned (.int .i64 e.size) ∧ Below w'.heap.size w' w'') := fun w' h => size_prog e he hg w' (up h)
  have H14 : Hid (∀ w', Below W0.heap.size W0 w' → Calls Tryd.prog 14 #[e.val] w' fun x w'' => x = .returned (.int .i64 e.size) ∧ Below w'.heap.size w' w'') := fun w' h => size_calls e.size e (Nat.le_refl _) (by omega) w' (up h)
  have H15 : Hid (∀ w', Below W0.heap.size W0 w' → Calls Tryd.prog 15 #[e.val] w' fun x w'' => x = .returned (.int .i64 e.depth) ∧ Below w'.heap.size w' w'') := fun w' h => depth_prog e he hg w' (up h)
  have H16 : Hid (∀ w', Below W0.heap.size W0 w' → Calls Tryd.prog 16 #[e.val] w' fun x w'' => x = .returned (.int .i64 e.depth) ∧ Below w'.heap.size w' w'') := fun w' h => depth_calls e.size e (Nat.le_refl _) (by omega) w' (up h)
  have H18 : Hid (∀ w', Below W0.heap.size W0 w' → Calls Tryd.prog 18 #[e.val] w' fun x w'' => ∃ v, x = .returned v ∧ Mine w'' w'.heap.size v e.calls ∧ Below w'.heap.size w' w'') := fun w' h => calls_prog e he hg w' (up h)
  have H19 : Hid (∀ w', Below W0.heap.size W0 w' → Calls Tryd.prog 19 #[e.val] w' fun x w'' => ∃ v, x = .returned v ∧ Mine w'' w'.heap.size v e.calls ∧ Below w'.heap.size w' w'') := fun w' h => calls_calls e.size e (Nat.le_refl _) (by omega) w' (up h)
  have HCL : Hid (e.calls.length ≤ 1048576) := by have := calls_size e; rw [Hid]; omega
  have hbx : ∀ j, j < 6 → W0.cell? ⟨w.heap.size, j, none⟩ = e.cells[j]? := fun j hj => by rw [hW0]; exact cell_alloc_eq rfl
  generalize e.lit = L at *
  obtain ⟨L1, L2, L3⟩ := L
  generalize e.size = z1 at *
  generalize e.depth = z2 at *
  generalize e.calls = cl at *
  generalize heavyB e = hv at *
  have HB0 : Hid (Below w.heap.size w W0) := hb0
  have HS0 : Hid (W0.heap.size = w.heap.size + 1) := hs0
  obtain ⟨kd, pl, nm, it, dn, a, cap, l⟩ := e
  have x0 : W0.cell? ⟨w.heap.size, 0, none⟩ = some (.int .u8 kd) := hbx 0 (by omega)
  have x1 : W0.cell? ⟨w.heap.size, 1, none⟩ = some (.int .i64 pl) := hbx 1 (by omega)
  have x2 : W0.cell? ⟨w.heap.size, 2, none⟩ = some (.string nm) := hbx 2 (by omega)
  have x3 : W0.cell? ⟨w.heap.size, 3, none⟩ = some (.int .i64 it) := hbx 3 (by omega)
  have x4 : W0.cell? ⟨w.heap.size, 4, none⟩ = some (.int .i64 dn) := hbx 4 (by omega)
  have x5 : W0.cell? ⟨w.heap.size, 5, none⟩ = some (.slice a l.length cap) := hbx 5 (by omega)
  simp only [Ex.val, Ex.cells, List.toArray] at CH H13 H14 H15 H16 H18 H19 HP HR hW0 ⊢
  have HBX : Hid (BoxS W0.heap.size W0 w.heap.size kd pl nm it dn (.slice a l.length cap) W0) := ⟨Below.refl _ _, x0, x1, x2, x3, x4, x5⟩
  have HW0 : Hid _ := hW0
  clear hbx up hl0 ht0 hb0 hs0 hl ht hg he hsb x0 x1 x2 x3 x4 x5 hW0
  cases hv
  · go_enter Tryd.func3, Tryd.ntmps3
    go_wp2_with fail
    rw [← HW0.out]
    refine CH.mono ?_
    rintro x w1 ⟨rfl, hb1⟩
    obtain ⟨K1, y0, y1, y2, y3, y4, y5⟩ := boxS_kept HBX.out rfl hb1
    have C2 := HP.out w1 K1.out
    clear CH hb1
    go_wp2_with fail
    refine C2.mono ?_
    rintro x w2 ⟨rfl, hb2⟩
    obtain ⟨K2, p0, p1, p2, p3, p4, p5⟩ := boxS_kept ⟨K1, y0, y1, y2, y3, y4, y5⟩ rfl hb2
    have C3 := HR.out w2 K2.out
    clear C2 hb2 y0 y1 y2 y3 y4 y5
    go_wp2_with fail
    refine C3.mono ?_
    rintro x w3 ⟨rfl, hb3⟩
    obtain ⟨K3, y0, y1, y2, y3, y4, y5⟩ := boxS_kept ⟨K2, p0, p1, p2, p3, p4, p5⟩ rfl hb3
    clear C3 hb3 p0 p1 p2 p3 p4 p5
    have K3d : Hid (Below W0.heap.size W0 w3.drew) := Below.drew K3.out
    have HK : Hid (∀ (w' w'' : World), Hid (Below W0.heap.size W0 w') → w'.cell? ⟨w.heap.size, 0, none⟩ = some (.int .u8 kd) → w'.cell? ⟨w.heap.size, 1, none⟩ = some (.int .i64 pl) → w'.cell? ⟨w.heap.size, 2, none⟩ = some (.string nm) → w'.cell? ⟨w.heap.size, 3, none⟩ = some (.int .i64 it) → w'.cell? ⟨w.heap.size, 4, none⟩ = some (.int .i64 dn) → w'.cell? ⟨w.heap.size, 5, none⟩ = some (.slice a l.length cap) → Below w'.heap.size w' w'' → BoxS W0.heap.size W0 w.heap.size kd pl nm it dn (.slice a l.length cap) w'') := fun w' w'' h0 h1 h2 h3 h4 h5 h6 hb => boxS_kept ⟨h0, h1, h2, h3, h4, h5, h6⟩ rfl hb
    have HBox : Hid (∀ w', Hid (Below W0.heap.size W0 w') → BoxS W0.heap.size W0 w.heap.size kd pl nm it dn (.slice a l.length cap) w') := fun w' h => boxS_kept HBX.out rfl h.out
    have bl : Hid (∀ (w' w'' : World), Hid (Below W0.heap.size W0 w') → Below w'.heap.size w' w'' → Hid (Below W0.heap.size W0 w'')) := fun w' w'' h1 h2 => h1.out.trans (h2.mono h1.out.size)
    have HTx : Hid (∀ (w' : World) (v1 v2 : Value) (B1 B2 : Nat), Mine w' B1 v1 cl → Mine w' B2 v2 cl → CallIs 17 #[v1, v2] w' fun x w'' => x = .returned (.bool true) ∧ Below w'.heap.size w' w'') := fun w' v1 v2 B1 B2 h1 h2 => ⟨(texts_calls cl w' B1 B2 v1 v2 HCL.out h1.own h2.own).mono fun x w'' h => ⟨h.1, by have := h.2; first | exact this | exact Gr.below this⟩⟩
    go_wp2_with fail
    go_region_held3 (fun w' => Hid (Below W0.heap.size W0 w') ∧ w'.cell? ⟨w.heap.size, 0, none⟩ = some (.int .u8 kd) ∧ w'.cell? ⟨w.heap.size, 1, none⟩ = some (.int .i64 pl) ∧ w'.cell? ⟨w.heap.size, 2, none⟩ = some (.string nm) ∧ w'.cell? ⟨w.heap.size, 3, none⟩ = some (.int .i64 it) ∧ w'.cell? ⟨w.heap.size, 4, none⟩ = some (.int .i64 dn) ∧ w'.cell? ⟨w.heap.size, 5, none⟩ = some (.slice a l.length cap)) (go_simp) (first
      | (go_at_call 13; refine (H13.out _ (Hid.out (by assumption))).mono ?_; rintro r w5 ⟨rfl, hb5⟩; obtain ⟨hB5, l0, l1, l2, l3, l4, l5⟩ := HBox.out w5 (bl.out _ w5 (by assumption) hb5); clear hb5)
      | (go_at_call 14; refine (H14.out _ (Hid.out (by assumption))).mono ?_; rintro r w5 ⟨rfl, hb5⟩; obtain ⟨hB5, l0, l1, l2, l3, l4, l5⟩ := HBox.out w5 (bl.out _ w5 (by assumption) hb5); clear hb5)
      | (go_at_call 15; refine (H15.out _ (Hid.out (by assumption))).mono ?_; rintro r w5 ⟨rfl, hb5⟩; obtain ⟨hB5, l0, l1, l2, l3, l4, l5⟩ := HBox.out w5 (bl.out _ w5 (by assumption) hb5); clear hb5)
      | (go_at_call 16; refine (H16.out _ (Hid.out (by assumption))).mono ?_; rintro r w5 ⟨rfl, hb5⟩; obtain ⟨hB5, l0, l1, l2, l3, l4, l5⟩ := HBox.out w5 (bl.out _ w5 (by assumption) hb5); clear hb5)
      | (go_at_call 18; refine (H18.out _ (Hid.out (by assumption))).mono ?_; rintro r w5 ⟨v5, rfl, hm5, hb5⟩; obtain ⟨hB5, l0, l1, l2, l3, l4, l5⟩ := HBox.out w5 (bl.out _ w5 (by assumption) hb5); have hM5 : Hid _ := hm5; clear hb5 hm5)
      | (go_at_call 19; refine (H19.out _ (Hid.out (by assumption))).mono ?_; rintro r w6 ⟨v6, rfl, hm6, hb6⟩; obtain ⟨hB6, l0, l1, l2, l3, l4, l5⟩ := HBox.out w6 (bl.out _ w6 (by assumption) hb6); have hT6 := HTx.out w6 v5 v6 _ _ (Mine.below hM5.out hb6) hm6; clear hb6 hm6)
      | (go_at_call 17; refine (CallIs.out (by assumption)).mono ?_; rintro r w7 ⟨rfl, hb7⟩; obtain ⟨hB7, l0, l1, l2, l3, l4, l5⟩ := HBox.out w7 (bl.out _ w7 (by assumption) hb7); clear hb7)
      | (go_at_call 10; refine (HA.out _ (Hid.out (by assumption))).mono ?_; rintro r w8 ⟨rfl, hb8⟩; obtain ⟨hB8, l0, l1, l2, l3, l4, l5⟩ := HBox.out w8 (bl.out _ w8 (by assumption) hb8); clear hb8))
    all_goals go_wp2_with fail
    all_goals go_ret
    all_goals exact ⟨rfl, HB0.out.trans (hB8.out.mono (by have := HS0.out; omega))⟩
  · go_enter Tryd.func3, Tryd.ntmps3
    go_wp2_with fail
    rw [← HW0.out]
    refine CH.mono ?_
    rintro x w1 ⟨rfl, hb1⟩
    have C2 := HA.out w1 hb1
    have HB1 : Hid (Below w.heap.size w w1) := HB0.out.trans (hb1.mono (by have := HS0.out; omega))
    clear CH hb1
    go_wp2_with fail
    refine C2.mono ?_
    rintro x w2 ⟨rfl, hb2⟩
    have HB2 : Hid (Below w.heap.size w w2) := HB1.out.trans (hb2.mono HB1.out.size)
    clear C2 hb2
    go_wp2_with fail
    go_ret
    exact ⟨rfl, HB2.out⟩
end Go.Proofs.YtbgndapaccdjoaaDoor
