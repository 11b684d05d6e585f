/- The statement ShowApart, walked. -/
import Derived.Test.YthbjagmlcemefaaDoorShowLaws
namespace Go.Proofs.YthbjagmlcemefaaDoor
open Go.RowKit
open Ex.size Ex.depth Ex.lies Ex.bulk Ex.good Ex.shape Ex.text
attribute [local go_sem] later_size later_cell later_frozen later_setCell later_drew later_drewN later_tape drewN_setCell drewN_alloc drewN_later later_later lt_more lt_more1 lt_more2 lt_more3 lt_more4 lk0_0_1 lk1_0_1 lk2_0_1 lk0_0_2 lk1_0_2 lk2_0_2 lk0_1_2 lk0_0_3 lk1_0_3 lk2_0_3 lk0_1_3 lk0_2_3 lk0_0_4 lk1_0_4 lk2_0_4 lk0_1_4 lk0_2_4 lk0_3_4 lk0_0_5 lk1_0_5 lk2_0_5 lk0_1_5 lk0_2_5 lk0_3_5 lk0_4_5 lk0_0_6 lk1_0_6 lk2_0_6 lk0_1_6 lk0_2_6 lk0_3_6 lk0_4_6 lk0_5_6 lk0_0_7 lk1_0_7 lk2_0_7 lk0_1_7 lk0_2_7 lk0_3_7 lk0_4_7 lk0_5_7 lk0_6_7
/-- A text that is answered with OK is the expression's. -/
theorem out_ok {e : Ex} (h : (exprOut e).2 = 0) : e.shape = true ∧ (exprOut e).1 = ⟨e.text.toArray⟩ := by
  unfold exprOut at h ⊢
  split at h
  · rename_i hm
    rw [if_pos hm]
    refine ⟨(one_ok hm).1, ?_⟩
    unfold outOf at h ⊢
    split at h
    · exact absurd h (by decide)
    · rename_i hl
      rw [if_neg hl]
  · rename_i hm
    exact absurd h hm
theorem apart_eq {e e' : Ex} (h : (exprOut e).2 = 0) (h' : (exprOut e').2 = 0) : ((exprOut e).1.toList == (exprOut e').1.toList) = e.same e' := by
  obtain ⟨s1, t1⟩ := out_ok h
  obtain ⟨s2, t2⟩ := out_ok h'
  rw [t1, t2, Bool.eq_iff_iff, beq_iff_eq, ← text_apart e e' s1 s2, ByteArray.toList_eq, ByteArray.toList_eq]
set_option maxRecDepth 100000 in
set_option maxHeartbeats 12800000 in
theorem apart_walk (e e' : Ex) (hb : e.bulk ≤ 1048576) (hb' : e'.bulk ≤ 1048576) (hg : e.good) (hg' : e'.good) (w : World) (hl : e.lies w) (hl' : e'.lies w) (ht : Tabs w) : Calls Tryd.prog 8 #[e.val, e'.val] w fun x w' => x = .returned (.bool true) ∧ Below w.heap.size w w' := by
  obtain ⟨w0, hw0⟩ : ∃ w0 : World, w0 = w.alloc (.cells e.cells.toArray 33) := ⟨_, rfl⟩
  obtain ⟨W0, hW0⟩ : ∃ W0 : World, W0 = w0.alloc (.cells e'.cells.toArray 33) := ⟨_, rfl⟩
  have s0 : w0.heap.size = w.heap.size + 1 := by rw [hw0]; simp
  have HS0 : Hid (W0.heap.size = w.heap.size + 2) := by rw [Hid, hW0]; simp [s0]
  have ha : Below w.heap.size w w0 := by rw [hw0]; exact (Below.refl _ _).alloc (Nat.le_refl _) _
  have hc : Below w0.heap.size w0 W0 := by rw [hW0]; exact (Below.refl _ _).alloc (Nat.le_refl _) _
  have hb0 : Below w.heap.size w W0 := ha.trans (hc.mono (by omega))
  have hbx : W0.heap[w.heap.size]? = some (.cells e.cells.toArray 33 (0, 0)) := by rw [hc.block _ (by omega), hw0]; exact heap_at rfl
  have hby : W0.heap[w.heap.size + 1]? = some (.cells e'.cells.toArray 33 (0, 0)) := by rw [hW0]; exact heap_at (by omega)
  have hl0 := lies_below hb0 e hl
  have hl0' := lies_below hb0 e' hl'
  have ht0 := ht.below hb0
  have z1 : e.size ≤ 1048576 := Nat.le_trans (size_bulk e) hb
  have z2 : e'.size ≤ 1048576 := Nat.le_trans (size_bulk e') hb'
  have H1 : Hid (∀ w', Below W0.heap.size W0 w' → Calls Tryd.prog 13 #[e.val] w' fun x w'' => x = .returned (.bool (heavyB e)) ∧ Below w'.heap.size w' w'') := fun w' h => heavy_calls e hb w' (lies_below h e hl0)
  have H2 : Hid (∀ w', Below W0.heap.size W0 w' → Calls Tryd.prog 13 #[e'.val] w' fun x w'' => x = .returned (.bool (heavyB e')) ∧ Below w'.heap.size w' w'') := fun w' h => heavy_calls e' hb' w' (lies_below h e' hl0')
  have HA : Hid (∀ w', Below W0.heap.size W0 w' → Calls Tryd.prog 27 #[] w' fun x w'' => x = .returned (.bool true) ∧ Below w'.heap.size w' w'') := fun w' h => show_alive w' (ht0.below h)
  have HP : Hid (∀ w', Below W0.heap.size W0 w' → Calls Tryd.prog 28 #[e.val] w' fun x w'' => x = .returned (.tuple #[.string (exprOut e).1, .int .i64 (exprOut e).2]) ∧ Below w'.heap.size w' w'') := fun w' h => expr_tabs e hb hg w' (lies_below h e hl0) (ht0.below h)
  have HQ : Hid (∀ w', Below W0.heap.size W0 w' → Calls Tryd.prog 28 #[e'.val] w' fun x w'' => x = .returned (.tuple #[.string (exprOut e').1, .int .i64 (exprOut e').2]) ∧ Below w'.heap.size w' w'') := fun w' h => expr_tabs e' hb' hg' w' (lies_below h e' hl0') (ht0.below h)
  have HR : Hid (∀ w', Below W0.heap.size W0 w' → Calls Tryd.prog 17 #[e.val, e'.val] w' fun x w'' => x = .returned (.bool (e.same e')) ∧ Below w'.heap.size w' w'') := fun w' h => same_ex e.size e e' (Nat.le_refl _) z1 z2 w' (lies_below h e hl0) (lies_below h e' hl0')
  have HEq : Hid ((exprOut e).2 = 0 → (exprOut e').2 = 0 → ((exprOut e).1.toList == (exprOut e').1.toList) = e.same e') := apart_eq
  have HB0 : Hid _ := hb0
  have HE0 : Hid (W0 = (w.alloc (.cells e.cells.toArray 33)).alloc (.cells e'.cells.toArray 33)) := by rw [Hid, hW0, hw0]
  have HBX : Hid (∀ w', Below W0.heap.size W0 w' → ∀ j, w'.cell? ⟨w.heap.size, j, none⟩ = e.cells.toArray[j]?) := fun w' h => box_keep hbx h
  have HBY : Hid (∀ w', Below W0.heap.size W0 w' → ∀ j, w'.cell? ⟨w.heap.size + 1, j, none⟩ = e'.cells.toArray[j]?) := fun w' h => box_keep hby h
  generalize exprOut e = o at *
  generalize exprOut e' = p at *
  obtain ⟨o1, o2⟩ := o
  obtain ⟨p1, p2⟩ := p
  generalize heavyB e = hv at *
  generalize heavyB e' = hv' at *
  generalize e.same e' = sm at *
  clear hb0 hW0 hw0 ha hc s0 hl0 hl0' ht0 hl hl' ht hg hg' hb hb' hbx hby z1 z2
  obtain ⟨kd, pl, nm, it, dn, a, cap, l⟩ := e
  obtain ⟨kd', pl', nm', it', dn', a', cap', l'⟩ := e'
  obtain ⟨n, hn⟩ : ∃ n, n = l.length := ⟨_, rfl⟩
  obtain ⟨n', hn'⟩ : ∃ n, n = l'.length := ⟨_, rfl⟩
  simp only [Ex.val, Ex.cells, List.toArray, ← hn, ← hn'] at H1 H2 HP HQ HR HE0 HBX HBY ⊢
  simp only at HEq
  clear hn hn'
  have HC : Hid (∀ w', Below W0.heap.size W0 w' → w'.cell? ⟨w.heap.size, 0, none⟩ = some (.int .u8 kd) ∧ w'.cell? ⟨w.heap.size, 1, none⟩ = some (.int .i64 pl) ∧ w'.cell? ⟨w.heap.size, 2, none⟩ = some (.string nm) ∧ w'.cell? ⟨w.heap.size, 3, none⟩ = some (.int .i64 it) ∧ w'.cell? ⟨w.heap.size, 4, none⟩ = some (.int .i64 dn) ∧ w'.cell? ⟨w.heap.size, 5, none⟩ = some (.slice a n cap)) := fun w' h => ⟨by rw [HBX.out w' h]; rfl, by rw [HBX.out w' h]; rfl, by rw [HBX.out w' h]; rfl, by rw [HBX.out w' h]; rfl, by rw [HBX.out w' h]; rfl, by rw [HBX.out w' h]; rfl⟩
  have HD : Hid (∀ w', Below W0.heap.size W0 w' → w'.cell? ⟨w.heap.size + 1, 0, none⟩ = some (.int .u8 kd') ∧ w'.cell? ⟨w.heap.size + 1, 1, none⟩ = some (.int .i64 pl') ∧ w'.cell? ⟨w.heap.size + 1, 2, none⟩ = some (.string nm') ∧ w'.cell? ⟨w.heap.size + 1, 3, none⟩ = some (.int .i64 it') ∧ w'.cell? ⟨w.heap.size + 1, 4, none⟩ = some (.int .i64 dn') ∧ w'.cell? ⟨w.heap.size + 1, 5, none⟩ = some (.slice a' n' cap')) := fun w' h => ⟨by rw [HBY.out w' h]; rfl, by rw [HBY.out w' h]; rfl, by rw [HBY.out w' h]; rfl, by rw [HBY.out w' h]; rfl, by rw [HBY.out w' h]; rfl, by rw [HBY.out w' h]; rfl⟩
  clear HBX HBY
  have K0 : Hid (Below W0.heap.size W0 W0) := Below.refl _ _
  have C1 := H1.out W0 K0.out
  go_enter Tryd.func8, Tryd.ntmps8
  go_wp2_with fail
  rw [← HE0.out]
  refine C1.mono ?_
  rintro x w1 ⟨rfl, hb1⟩
  have K1 : Hid (Below W0.heap.size W0 w1) := hb1
  clear C1 hb1
  cases hv
  · obtain ⟨d0, d1, d2, d3, d4, d5⟩ := HD.out w1 K1.out
    have C2 := H2.out w1 K1.out
    go_wp2_with fail
    refine C2.mono ?_
    rintro x w2 ⟨rfl, hb2⟩
    have K2 : Hid (Below W0.heap.size W0 w2) := K1.out.trans (hb2.mono K1.out.size)
    clear C2 hb2 d0 d1 d2 d3 d4 d5
    cases hv'
    · obtain ⟨c0, c1, c2, c3, c4, c5⟩ := HC.out w2 K2.out
      have C3 := HP.out w2 K2.out
      go_wp2_with fail
      refine C3.mono ?_
      rintro x w3 ⟨rfl, hb3⟩
      have K3 : Hid (Below W0.heap.size W0 w3) := K2.out.trans (hb3.mono K2.out.size)
      clear C3 hb3 c0 c1 c2 c3 c4 c5
      obtain ⟨d0, d1, d2, d3, d4, d5⟩ := HD.out w3 K3.out
      have C4 := HQ.out w3 K3.out
      go_wp2_with fail
      refine C4.mono ?_
      rintro x w4 ⟨rfl, hb4⟩
      have K4 : Hid (Below W0.heap.size W0 w4) := K3.out.trans (hb4.mono K3.out.size)
      clear C4 hb4 d0 d1 d2 d3 d4 d5
      have CA := HA.out w4 K4.out
      by_cases h1 : o2 = 0
      · subst h1
        by_cases h2 : p2 = 0
        · subst h2
          have HE2 : (o1.toList == p1.toList) = sm := HEq.out rfl rfl
          obtain ⟨c0, c1, c2, c3, c4, c5⟩ := HC.out w4 K4.out
          obtain ⟨d0, d1, d2, d3, d4, d5⟩ := HD.out w4 K4.out
          have C5 := HR.out w4 K4.out
          clear CA HEq
          go_wp2_with fail
          refine C5.mono ?_
          rintro x w5 ⟨rfl, hb5⟩
          have K5 : Hid (Below W0.heap.size W0 w5) := K4.out.trans (hb5.mono K4.out.size)
          clear C5 hb5 c0 c1 c2 c3 c4 c5 d0 d1 d2 d3 d4 d5
          have C6 := HA.out w5 K5.out
          go_wp2_with fail
          refine C6.mono ?_
          rintro x w6 ⟨rfl, hb6⟩
          have K6 : Hid (Below W0.heap.size W0 w6) := K5.out.trans (hb6.mono K5.out.size)
          clear C6 hb6
          go_wp2_with fail
          go_ret
          exact ⟨rfl, HB0.out.trans (K6.out.mono (by have := HS0.out; omega))⟩
        · have h2b : (p2 == 0) = false := beq_false_of_ne h2
          clear HEq
          go_wp2_with fail
          refine CA.mono ?_
          rintro x w5 ⟨rfl, hb5⟩
          have K5 : Hid (Below W0.heap.size W0 w5) := K4.out.trans (hb5.mono K4.out.size)
          clear CA hb5
          go_wp2_with fail
          go_ret
          exact ⟨rfl, HB0.out.trans (K5.out.mono (by have := HS0.out; omega))⟩
      · have h1b : (o2 == 0) = false := beq_false_of_ne h1
        clear HEq
        go_wp2_with fail
        refine CA.mono ?_
        rintro x w5 ⟨rfl, hb5⟩
        have K5 : Hid (Below W0.heap.size W0 w5) := K4.out.trans (hb5.mono K4.out.size)
        clear CA hb5
        go_wp2_with fail
        go_ret
        exact ⟨rfl, HB0.out.trans (K5.out.mono (by have := HS0.out; omega))⟩
    · have CA := HA.out w2 K2.out
      go_wp2_with fail
      refine CA.mono ?_
      rintro x w3 ⟨rfl, hb3⟩
      have K3 : Hid (Below W0.heap.size W0 w3) := K2.out.trans (hb3.mono K2.out.size)
      clear CA hb3
      go_wp2_with fail
      go_ret
      exact ⟨rfl, HB0.out.trans (K3.out.mono (by have := HS0.out; omega))⟩
  · have CA := HA.out w1 K1.out
    go_wp2_with fail
    refine CA.mono ?_
    rintro x w2 ⟨rfl, hb2⟩
    have K2 : Hid (Below W0.heap.size W0 w2) := K1.out.trans (hb2.mono K1.out.size)
    clear CA hb2
    go_wp2_with fail
    go_ret
    exact ⟨rfl, HB0.out.trans (K2.out.mono (by have := HS0.out; omega))⟩
end Go.Proofs.YthbjagmlcemefaaDoor
