/- The document's answer of layer 5: One, Expr. -/
import Derived.Test.YthbjagmlcemefaaDoorRefTextAll
import Derived.Test.YthbjagmlcemefaaDoorShowOne
import Derived.Test.YthbjagmlcemefaaDoorRefMayAll
namespace Go.Proofs.YthbjagmlcemefaaDoor
open Go.RowKit
open Ex.size Ex.depth Ex.lies Ex.bulk Ex.good Ex.shape Ex.text
attribute [local go_sem] later_size later_cell later_frozen later_setCell later_drew later_drewN later_tape drewN_setCell drewN_alloc drewN_later later_later lt_more lt_more1 lt_more2 lt_more3 lt_more4 lk0_0_1 lk1_0_1 lk2_0_1 lk0_0_2 lk1_0_2 lk2_0_2 lk0_1_2 lk0_0_3 lk1_0_3 lk2_0_3 lk0_1_3 lk0_2_3 lk0_0_4 lk1_0_4 lk2_0_4 lk0_1_4 lk0_2_4 lk0_3_4 lk0_0_5 lk1_0_5 lk2_0_5 lk0_1_5 lk0_2_5 lk0_3_5 lk0_4_5 lk0_0_6 lk1_0_6 lk2_0_6 lk0_1_6 lk0_2_6 lk0_3_6 lk0_4_6 lk0_5_6 lk0_0_7 lk1_0_7 lk2_0_7 lk0_1_7 lk0_2_7 lk0_3_7 lk0_4_7 lk0_5_7 lk0_6_7
set_option maxRecDepth 100000 in
set_option maxHeartbeats 6400000 in
theorem one_ref (e : Ex) (w : World) (hl : e.lies w) : Calls Tryd.prog 57 #[e.val] w fun x w' => ∃ b na qa, x = .returned (.agg #[.slice (some ⟨b, 0, none⟩) 1 1]) ∧ Lie w' (some ⟨b, 0, none⟩) [oneNd na qa 1 1 e] ∧ Below w.heap.size w w' := by
  obtain ⟨w1, hw1⟩ : ∃ w1, w1 = w.alloc (.cells e.cells.toArray 33) := ⟨_, rfl⟩
  obtain ⟨w2, hw2⟩ : ∃ w2, w2 = w1.alloc (.cells #[.slice (some ⟨w.heap.size + 1 + 1 + 1 + 1, 0, none⟩) 1 1] 25) := ⟨_, rfl⟩
  obtain ⟨w3, hw3⟩ : ∃ w3, w3 = w2.alloc (.cells #[.string ⟨#[120]⟩] 9) := ⟨_, rfl⟩
  obtain ⟨w4, hw4⟩ : ∃ w4, w4 = w3.alloc (.cells (oneEq (some ⟨w.heap.size + 1 + 1, 0, none⟩) 1 e).cells.toArray 36) := ⟨_, rfl⟩
  obtain ⟨W, hW⟩ : ∃ W, W = w4.alloc (.cells (oneNd (some ⟨w.heap.size + 1 + 1, 0, none⟩) (some ⟨w.heap.size + 1 + 1 + 1, 0, none⟩) 1 1 e).cells.toArray 29) := ⟨_, rfl⟩
  have s1 : w1.heap.size = w.heap.size + 1 := by rw [hw1]; simp
  have s2 : w2.heap.size = w.heap.size + 2 := by rw [hw2]; simp [s1]
  have s3 : w3.heap.size = w.heap.size + 3 := by rw [hw3]; simp [s2]
  have s4 : w4.heap.size = w.heap.size + 4 := by rw [hw4]; simp [s3]
  have g1 : Below w.heap.size w w1 := by rw [hw1]; exact (Below.refl _ _).alloc (Nat.le_refl _) _
  have g2 : Below w1.heap.size w1 w2 := by rw [hw2]; exact (Below.refl _ _).alloc (Nat.le_refl _) _
  have g3 : Below w2.heap.size w2 w3 := by rw [hw3]; exact (Below.refl _ _).alloc (Nat.le_refl _) _
  have g4 : Below w3.heap.size w3 w4 := by rw [hw4]; exact (Below.refl _ _).alloc (Nat.le_refl _) _
  have g5 : Below w4.heap.size w4 W := by rw [hW]; exact (Below.refl _ _).alloc (Nat.le_refl _) _
  have g45 : Below w3.heap.size w3 W := g4.trans (g5.mono (by omega))
  have g35 : Below w2.heap.size w2 W := g3.trans (g45.mono (by omega))
  have g25 : Below w1.heap.size w1 W := g2.trans (g35.mono (by omega))
  have g15 : Below w.heap.size w W := g1.trans (g25.mono (by omega))
  have h1 : W.heap[w.heap.size + 1 + 1]? = some (.cells #[.string ⟨#[120]⟩] 9 (0, 0)) := by rw [g45.block _ (by omega), hw3]; exact heap_at (by omega)
  have h2 : W.heap[w.heap.size + 1 + 1 + 1]? = some (.cells (oneEq (some ⟨w.heap.size + 1 + 1, 0, none⟩) 1 e).cells.toArray 36 (0, 0)) := by rw [g5.block _ (by omega), hw4]; exact heap_at (by omega)
  have h3 : W.heap[w.heap.size + 1 + 1 + 1 + 1]? = some (.cells (oneNd (some ⟨w.heap.size + 1 + 1, 0, none⟩) (some ⟨w.heap.size + 1 + 1 + 1, 0, none⟩) 1 1 e).cells.toArray 29 (0, 0)) := by rw [hW]; exact heap_at (by omega)
  have HL : Hid _ := one_lie (lies_below g15 e hl) h1 h2 h3
  have HG : Hid _ := g15
  have HW0 : Hid (W = ((((w.alloc (.cells e.cells.toArray 33)).alloc (.cells #[.slice (some ⟨w.heap.size + 1 + 1 + 1 + 1, 0, none⟩) 1 1] 25)).alloc (.cells #[.string ⟨#[120]⟩] 9)).alloc (.cells (oneEq (some ⟨w.heap.size + 1 + 1, 0, none⟩) 1 e).cells.toArray 36)).alloc (.cells (oneNd (some ⟨w.heap.size + 1 + 1, 0, none⟩) (some ⟨w.heap.size + 1 + 1 + 1, 0, none⟩) 1 1 e).cells.toArray 29)) := by rw [Hid, hW, hw4, hw3, hw2, hw1]
  clear hw1 hw2 hw3 hw4 hW s1 s2 s3 s4 g1 g2 g3 g4 g5 g45 g35 g25 g15 h1 h2 h3 hl
  have HE : Hid (∃ na qa, Lie W (some ⟨w.heap.size + 1 + 1 + 1 + 1, 0, none⟩) [oneNd na qa 1 1 e]) := ⟨_, _, HL.out⟩
  clear HL
  obtain ⟨e0, he0⟩ : ∃ e0, e0 = e := ⟨_, rfl⟩
  have HEQ : Hid (e0 = e) := he0
  rw [← he0] at HE ⊢
  have hval : e0.val = e.val := by rw [he0]
  rw [hval]
  clear he0 hval
  obtain ⟨kd, pl, nm, it, dn, a, cap, l⟩ := e
  obtain ⟨n, hn⟩ : ∃ n, n = l.length := ⟨_, rfl⟩
  simp only [Ex.val, Ex.cells, oneEq, oneNd, Eqn.cells, Nd.cells, List.toArray, List.length_cons, List.length_nil, Nat.zero_add, ← hn] at HW0 ⊢
  clear hn HEQ
  go_enter Tryd.func57, Tryd.ntmps57
  go_wp2_with fail
  rw [← HW0.out]
  have c1 : W.cell? ⟨w.heap.size + 1, 0, none⟩ = some (.slice (some ⟨w.heap.size + 1 + 1 + 1 + 1, 0, none⟩) 1 1) := by rw [HW0.out]; simp [go_sem]
  refine bodyPost_ret (v := .agg #[.slice (some ⟨w.heap.size + 1 + 1 + 1 + 1, 0, none⟩) 1 1]) (by simp [results, Tryd.results57, go_sem, c1]) rfl ?_
  obtain ⟨na, qa, hL⟩ := HE.out
  exact ⟨_, na, qa, rfl, hL, HG.out⟩
set_option maxRecDepth 100000 in
set_option maxHeartbeats 6400000 in
theorem expr_ref (e : Ex) (hb : e.bulk ≤ 1048576) (hg : e.good) (w : World) (hl : e.lies w) :
    Calls Tryd.prog 29 #[e.val] w fun x w' => x = .returned (.tuple #[.string (exprOut e).1, .int .i64 (exprOut e).2]) ∧ Below w.heap.size w w' := by
  obtain ⟨W0, hW0⟩ : ∃ W0, W0 = w.alloc (.cells e.cells.toArray 33) := ⟨_, rfl⟩
  have hb0 : Below w.heap.size w W0 := by rw [hW0]; exact (Below.refl _ _).alloc (Nat.le_refl _) _
  have hs0 : W0.heap.size = w.heap.size + 1 := by rw [hW0]; simp
  have hbx : W0.heap[w.heap.size]? = some (.cells e.cells.toArray 33 (0, 0)) := by rw [hW0]; exact heap_at rfl
  have C1 := one_ref e W0 (lies_below hb0 e hl)
  have CM : ∀ b na qa w', Lie w' (some ⟨b, 0, none⟩) [oneNd na qa 1 1 e] → Calls Tryd.prog 56 #[.agg #[.slice (some ⟨b, 0, none⟩) 1 1]] w' fun x w'' => x = .returned (.int .i64 (oneMay e)) ∧ Below w'.heap.size w' w'' := fun b na qa w' h => by
    have := may_ref [oneNd na qa 1 1 e] (some ⟨b, 0, none⟩) 1 (one_goods hg hb) w' h
    rw [one_may] at this
    exact this
  have HO : Hid (exprOut e = if oneMay e = 0 then outOf e.text else (⟨#[]⟩, oneMay e)) := rfl
  have HCT : Hid (oneMay e = 0 → ∀ w', Below W0.heap.size W0 w' → Calls Tryd.prog 58 #[e.val] w' fun x w'' => x = .returned (.string ⟨e.text.toArray⟩) ∧ Below w'.heap.size w' w'') := fun hm w' h => by
    obtain ⟨m1, m2, m3⟩ := one_ok hm
    exact rtext_all _ e (Nat.le_refl _) (by omega) m1 hg w' (lies_below (hb0.trans (h.mono (by omega))) e hl)
  have HTL : Hid (oneMay e = 0 → e.text.length ≤ 1000000) := fun hm => by
    obtain ⟨m1, m2, m3⟩ := one_ok hm
    have := text_len _ e (Nat.le_refl _) m1 hg
    omega
  have HOut : Hid (outOf e.text = if 65536 < e.text.length then (⟨#[]⟩, 4) else (⟨e.text.toArray⟩, 0)) := rfl
  have HE0 : Hid _ := hW0
  have HB0 : Hid _ := hb0
  have HS0 : Hid _ := hs0
  have HBX : Hid _ := hbx
  generalize outOf e.text = out at *
  generalize exprOut e = res at *
  generalize oneMay e = om at *
  generalize e.text = TT at *
  obtain ⟨e0, he0⟩ : ∃ e0, e0 = e := ⟨_, rfl⟩
  clear hW0 hb0 hs0 hbx hl hg hb
  obtain ⟨kd, pl, nm, it, dn, a, cap, l⟩ := e
  obtain ⟨n, hn⟩ : ∃ n, n = l.length := ⟨_, rfl⟩
  rw [← he0] at CM
  simp only [← he0] at C1
  have hval : e0.val = .agg #[.int .u8 kd, .int .i64 pl, .string nm, .int .i64 it, .int .i64 dn, .slice a n cap] := by rw [he0, hn]; rfl
  rw [hval] at C1
  simp only [Ex.val, Ex.cells, List.toArray, ← hn] at HE0 HBX HCT ⊢
  clear hn hval he0
  go_enter Tryd.func29, Tryd.ntmps29
  go_wp2_with fail
  rw [← HE0.out]
  refine C1.mono ?_
  rintro x w1 ⟨b, na, qa, rfl, hL, hb1⟩
  have HB1 : Hid _ := hb1
  have C2 := CM b na qa w1 hL
  clear C1 CM hL hb1
  go_wp2_with fail
  refine C2.mono ?_
  rintro x w2 ⟨rfl, hb2⟩
  have HB2 : Hid (Below W0.heap.size W0 w2) := HB1.out.trans (hb2.mono HB1.out.size)
  clear C2 hb2
  have bx := cell_of_row ((HB2.out.block _ (by have := HS0.out; omega)).trans HBX.out)
  have c0 : w2.cell? ⟨w.heap.size, 0, none⟩ = some (.int .u8 kd) := by rw [bx]; rfl
  have c1 : w2.cell? ⟨w.heap.size, 1, none⟩ = some (.int .i64 pl) := by rw [bx]; rfl
  have c2 : w2.cell? ⟨w.heap.size, 2, none⟩ = some (.string nm) := by rw [bx]; rfl
  have c3 : w2.cell? ⟨w.heap.size, 3, none⟩ = some (.int .i64 it) := by rw [bx]; rfl
  have c4 : w2.cell? ⟨w.heap.size, 4, none⟩ = some (.int .i64 dn) := by rw [bx]; rfl
  have c5 : w2.cell? ⟨w.heap.size, 5, none⟩ = some (.slice a n cap) := by rw [bx]; rfl
  clear bx
  by_cases hm : om = 0
  · have HO1 : Hid (res = out) := by rw [Hid, HO.out, if_pos hm]
    have C3 := HCT.out hm w2 HB2.out
    have hlen := HTL.out hm
    obtain ⟨tl, htl⟩ : ∃ tl, tl = TT.length := ⟨_, rfl⟩
    have hsz : (ByteArray.mk TT.toArray).size = tl := by rw [htl]; rfl
    rw [← htl] at hlen
    subst hm
    by_cases hlt : 65536 < tl
    · have HOut1 : Hid (out = (⟨#[]⟩, 4)) := by rw [Hid, HOut.out, if_pos (by rw [← htl]; exact hlt)]
      clear htl
      go_wp2_with fail
      refine C3.mono ?_
      rintro x w3 ⟨rfl, hb3⟩
      have HB3 : Hid (Below W0.heap.size W0 w3) := HB2.out.trans (hb3.mono HB2.out.size)
      clear C3 hb3 c0 c1 c2 c3 c4 c5
      go_wp2_with fail
      go_ret2
      exact ⟨by rw [HO1.out, HOut1.out]; rfl, HB0.out.trans (HB3.out.mono (by have := HS0.out; omega))⟩
    · have HOut1 : Hid (out = (⟨TT.toArray⟩, 0)) := by rw [Hid, HOut.out, if_neg (by rw [← htl]; exact hlt)]
      clear htl
      go_wp2_with fail
      refine C3.mono ?_
      rintro x w3 ⟨rfl, hb3⟩
      have HB3 : Hid (Below W0.heap.size W0 w3) := HB2.out.trans (hb3.mono HB2.out.size)
      clear C3 hb3 c0 c1 c2 c3 c4 c5
      go_wp2_with fail
      go_ret2
      exact ⟨by rw [HO1.out, HOut1.out]; rfl, HB0.out.trans (HB3.out.mono (by have := HS0.out; omega))⟩
  · have HO1 : Hid (res = (⟨#[]⟩, om)) := by rw [Hid, HO.out, if_neg hm]
    have hm2 : (om == 0) = false := beq_false_of_ne hm
    clear c0 c1 c2 c3 c4 c5
    go_wp2_with fail
    go_ret2
    exact ⟨by rw [HO1.out]; rfl, HB0.out.trans (HB2.out.mono (by have := HS0.out; omega))⟩
end Go.Proofs.YthbjagmlcemefaaDoor
