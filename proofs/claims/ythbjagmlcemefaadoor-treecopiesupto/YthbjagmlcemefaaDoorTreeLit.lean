/- The program's Literal. -/
import Derived.Test.YthbjagmlcemefaaDoorTreeExprMay
import Derived.Test.YthbjagmlcemefaaDoorExLiteral
namespace Go.Proofs.YthbjagmlcemefaaDoor
open Go.RowKit
open Ex.size Ex.depth Ex.lies Ex.bulk Ex.good Ex.pre Ex.shape
attribute [local go_sem] later_size later_cell later_frozen later_setCell later_drew later_drewN later_tape drewN_setCell drewN_alloc drewN_later later_later lt_more lt_more1 lt_more2 lt_more3 lt_more4 lk0_0_1 lk1_0_1 lk2_0_1 lk0_0_2 lk1_0_2 lk2_0_2 lk0_1_2 lk0_0_3 lk1_0_3 lk2_0_3 lk0_1_3 lk0_2_3 lk0_0_4 lk1_0_4 lk2_0_4 lk0_1_4 lk0_2_4 lk0_3_4 lk0_0_5 lk1_0_5 lk2_0_5 lk0_1_5 lk0_2_5 lk0_3_5 lk0_4_5 lk0_0_6 lk1_0_6 lk2_0_6 lk0_1_6 lk0_2_6 lk0_3_6 lk0_4_6 lk0_5_6 lk0_0_7 lk1_0_7 lk2_0_7 lk0_1_7 lk0_2_7 lk0_3_7 lk0_4_7 lk0_5_7 lk0_6_7
theorem shape_part (e : Ex) : e.shape = (partOk e && shapes e.args) := by
  obtain ⟨kd, pl, nm, it, dn, a, cap, l⟩ := e
  simp only [Ex.shape, partOk, numB]
  cases argsOkB kd l.length <;> cases nameOkB kd nm <;> cases intOkB kd it <;> cases denOkB kd dn <;> simp
theorem lit_none {e : Ex} (h : partOk e = false) : e.lit = (0, 0, false) := by
  obtain ⟨kd, pl, nm, it, dn, a, cap, l⟩ := e
  rw [Ex.lit, if_neg]
  rw [shape_part, h]
  simp
theorem part_len {e : Ex} (h : partOk e = true) : argsOkB e.kd e.args.length = true := by
  simp only [partOk, Bool.and_eq_true] at h
  exact h.1.1
theorem part_int {e : Ex} (h : partOk e = true) (hk : e.kd = 2) : 0 ≤ e.it := by
  simp only [partOk, numB, Bool.and_eq_true] at h
  have := h.1.2.1
  rw [hk] at this
  simpa [intOkB] using this
theorem lit_leaf {e : Ex} (h : partOk e = true) (hk : e.kd = 2 ∨ e.kd = 3) : e.lit = (e.it, if e.kd = 2 then 1 else 2, true) := by
  have hl := part_len h
  obtain ⟨kd, pl, nm, it, dn, a, cap, l⟩ := e
  simp only at hk hl ⊢
  have h0 : l = [] := by
    rcases hk with rfl | rfl
    · exact List.length_eq_zero_iff.1 (by simp [argsOkB, argsOf] at hl; omega)
    · exact List.length_eq_zero_iff.1 (by simp [argsOkB, argsOf] at hl; omega)
  subst h0
  rw [Ex.lit, if_pos (by rw [shape_part, h]; rfl)]
  rcases hk with rfl | rfl <;> simp [litKind]
theorem lit_other {e : Ex} (h : ¬ (e.kd = 2 ∨ e.kd = 3 ∨ e.kd = 5)) : e.lit = (0, 0, false) := by
  obtain ⟨kd, pl, nm, it, dn, a, cap, l⟩ := e
  simp only at h
  rw [Ex.lit]
  split
  · rw [litKind, if_neg (by omega), if_neg (by omega), if_neg (by omega)]
  · rfl
theorem lit_neg {e x : Ex} {r : List Ex} (h : partOk e = true) (hk : e.kd = 5) (hl : e.args = x :: r) : r = [] ∧ e.lit = if x.kd = 2 ∧ partOk x = true then (-x.it, 1, true) else (0, 0, false) := by
  have hn := part_len h
  obtain ⟨kd, pl, nm, it, dn, a, cap, l⟩ := e
  simp only at hk hl hn
  subst hk hl
  have hr : r = [] := List.length_eq_zero_iff.1 (by simp [argsOkB, argsOf] at hn; omega)
  subst hr
  refine ⟨rfl, ?_⟩
  rw [Ex.lit, shape_part, h]
  have hx := shape_part x
  by_cases h2 : x.kd = 2
  · by_cases hp : partOk x = true
    · have hxl := part_len hp
      rw [h2] at hxl
      have hxe : x.args = [] := List.length_eq_zero_iff.1 (by simp [argsOkB, argsOf] at hxl; omega)
      have : x.shape = true := by rw [hx, hp, hxe]; rfl
      obtain ⟨kd1, pl1, nm1, it1, dn1, a1, cap1, l1⟩ := x
      simp only at h2
      subst h2
      simp [shapes, this, hp, litKind, negOf]
    · have : x.shape = false := by rw [hx]; simp at hp; rw [hp]; rfl
      simp [shapes, this, hp]
  · obtain ⟨kd1, pl1, nm1, it1, dn1, a1, cap1, l1⟩ := x
    simp only at h2
    simp [h2, litKind, negOf]
set_option maxRecDepth 100000 in
set_option maxHeartbeats 3200000 in
theorem literal_prog (e : Ex) (he : e.bulk ≤ 1048576) (hgd : e.good) (w : World) (hl : e.lies w) (ht : HasTab w) : Calls Tryd.prog 36 #[e.val] w fun x w' => x = .returned (.tuple #[.int .i64 e.lit.1, .int .u8 e.lit.2.1, .bool e.lit.2.2]) ∧ Below w.heap.size w w' := by
  have hk : 0 ≤ e.kd ∧ e.kd ≤ 255 := by cases e; exact bounds_u8 hgd.1.1
  obtain ⟨hn, hs⟩ := len_args_bulk he
  have hb0 : Below w.heap.size w (w.alloc (.cells e.cells.toArray 33)) := (Below.refl _ _).alloc (Nat.le_refl _) _
  have CP := partMay_calls e hk.1 hk.2 hn hs _ (ht.below hb0)
  have HB0 : Hid _ := hb0
  cases hp : partOk e
  · have HL : Hid _ := lit_none hp
    rw [hp] at CP
    rw [HL.out]
    obtain ⟨kd, pl, nm, it, dn, a, cap, l⟩ := e
    simp only [Ex.val, Ex.cells, List.toArray] at *
    clear hl hgd he hk hn hs ht hp hb0
    go_enter Tryd.func36, Tryd.ntmps36
    go_wp2_with fail
    refine CP.mono ?_
    rintro x w2 ⟨rfl, hb⟩
    have HB : Hid (Below w.heap.size w w2) := HB0.out.trans (hb.mono (by simp))
    clear hb CP
    go_wp2_with fail
    go_returns
    exact ⟨rfl, HB.out⟩
  · rw [hp] at CP
    by_cases k5 : e.kd = 5
    · have hlen := part_len hp
      have hne : ∃ x r, e.args = x :: r := by
        rw [k5] at hlen
        have h1 : e.args.length = 1 := by simp [argsOkB, argsOf] at hlen; omega
        match hx : e.args, h1 with
        | x :: r, _ => exact ⟨x, r, rfl⟩
      obtain ⟨x, r, hxr⟩ := hne
      obtain ⟨hr, HL⟩ := lit_neg hp k5 hxr
      subst hr
      obtain ⟨kd, pl, nm, it, dn, a, cap, l⟩ := e
      simp only at k5 hxr
      subst k5 hxr
      obtain ⟨b, o, hla, hlie⟩ := hl
      obtain rfl := hla (by simp)
      obtain ⟨hc, hxl, _⟩ := hlie
      have hxg : x.good := hgd.2.1
      have hxb : x.bulk ≤ 1048576 := by simp only [Ex.bulk, Ex.bulk.bulks] at he; omega
      have hxk : 0 ≤ x.kd ∧ x.kd ≤ 255 := by cases x; exact bounds_u8 hxg.1.1
      have hxi : -9223372036854775808 ≤ x.it ∧ x.it ≤ 9223372036854775807 := by cases x; exact bounds_i64 hxg.1.2.2.2.1
      obtain ⟨hxn, hxs⟩ := len_args_bulk hxb
      have CX := partMay_calls x hxk.1 hxk.2 hxn hxs
      have HLit : Hid _ := HL
      have HT : Hid (HasTab w) := ht
      have HItB : Hid _ := fun (h : partOk x = true) (h2 : x.kd = 2) => part_int h h2
      clear HL hxk hxn hxs hxb hxg hxl hla hk hn hs hgd he ht hp hlen
      obtain ⟨kd1, pl1, nm1, it1, dn1, a1, cap1, l1⟩ := x
      have c0 : w.cell? ⟨b, o, none⟩ = some (.int .u8 kd1) := hc 0 (by omega)
      have c1 : w.cell? ⟨b, o + 1, none⟩ = some (.int .i64 pl1) := hc 1 (by omega)
      have c2 : w.cell? ⟨b, o + 2, none⟩ = some (.string nm1) := hc 2 (by omega)
      have c3 : w.cell? ⟨b, o + 3, none⟩ = some (.int .i64 it1) := hc 3 (by omega)
      have c4 : w.cell? ⟨b, o + 4, none⟩ = some (.int .i64 dn1) := hc 4 (by omega)
      have c5 : w.cell? ⟨b, o + 5, none⟩ = some (.slice a1 l1.length cap1) := hc 5 (by omega)
      have hblk := World.block_lt_of_cell? w ⟨b, o, none⟩ c0
      simp only [Ex.val, Ex.cells, List.toArray] at CP CX ⊢
      simp only at HLit hxi
      go_enter Tryd.func36, Tryd.ntmps36
      go_wp2_with fail
      refine CP.mono ?_
      rintro x w2 ⟨rfl, hb⟩
      have HB : Hid (Below w.heap.size w w2) := HB0.out.trans (hb.mono (by simp))
      have cx : ∀ j, j < 6 → w2.cell? ⟨b, o + j, none⟩ = w.cell? ⟨b, o + j, none⟩ := fun j hj => HB.out.cell (p := ⟨b, o + j, none⟩) hblk
      have d0 : w2.cell? ⟨b, o, none⟩ = some (.int .u8 kd1) := (cx 0 (by omega)).trans c0
      have d1 : w2.cell? ⟨b, o + 1, none⟩ = some (.int .i64 pl1) := (cx 1 (by omega)).trans c1
      have d2 : w2.cell? ⟨b, o + 2, none⟩ = some (.string nm1) := (cx 2 (by omega)).trans c2
      have d3 : w2.cell? ⟨b, o + 3, none⟩ = some (.int .i64 it1) := (cx 3 (by omega)).trans c3
      have d4 : w2.cell? ⟨b, o + 4, none⟩ = some (.int .i64 dn1) := (cx 4 (by omega)).trans c4
      have d5 : w2.cell? ⟨b, o + 5, none⟩ = some (.slice a1 l1.length cap1) := (cx 5 (by omega)).trans c5
      have y0 : w2.cell? ⟨w.heap.size, 0, none⟩ = some (.int .u8 5) := (hb.cell (p := ⟨w.heap.size, 0, none⟩) (by simp)).trans (by simp)
      have y5 : w2.cell? ⟨w.heap.size, 5, none⟩ = some (.slice (some ⟨b, o, none⟩) 1 cap) := (hb.cell (p := ⟨w.heap.size, 5, none⟩) (by simp)).trans (by simp)
      have hlt2 : b < w2.heap.size := by have := HB.out.size; omega
      have hbw : Below w2.heap.size w2 (w2.alloc (.cells #[.int .u8 kd1, .int .i64 pl1, .string nm1, .int .i64 it1, .int .i64 dn1, .slice a1 l1.length cap1] 33)) := (Below.refl _ _).alloc (Nat.le_refl _) _
      have CX2 := CX _ ((HT.out.below HB.out).below hbw)
      have HBW : Hid (Below w.heap.size w (w2.alloc (.cells #[.int .u8 kd1, .int .i64 pl1, .string nm1, .int .i64 it1, .int .i64 dn1, .slice a1 l1.length cap1] 33))) := HB.out.trans (hbw.mono HB.out.size)
      have HSz : Hid (w.heap.size ≤ w2.heap.size) := HB.out.size
      clear cx hb CP CX hc c0 c1 c2 c3 c4 c5 hbw
      by_cases h2 : kd1 = 2
      · subst h2
        go_wp2_with fail
        refine CX2.mono ?_
        rintro x w3 ⟨rfl, hb⟩
        have HB3 : Hid (Below w.heap.size w w3) := HBW.out.trans (hb.mono (by have := HSz.out; simp; omega))
        have z3 : w3.cell? ⟨w2.heap.size, 3, none⟩ = some (.int .i64 it1) := (hb.cell (p := ⟨w2.heap.size, 3, none⟩) (by simp)).trans (by simp)
        clear hb CX2
        generalize hq : partOk (Ex.mk 2 pl1 nm1 it1 dn1 a1 cap1 l1) = q at *
        have HQ : Hid _ := hq
        clear hq
        cases q
        · go_wp2_with fail
          go_returns
          exact ⟨lit_ret (by rw [HLit.out, if_neg (by simp)]), HB3.out⟩
        · have hi0 : 0 ≤ it1 := HItB.out rfl trivial
          go_wp2_with fail
          go_returns
          exact ⟨lit_ret (by rw [HLit.out, if_pos ⟨trivial, trivial⟩]), HB3.out⟩
      · have h2' : (kd1 == 2) = false := beq_false_of_ne h2
        go_wp2_with fail
        go_returns
        exact ⟨lit_ret (by rw [HLit.out, if_neg (by simp [h2])]), HBW.out⟩
    · have HL : Hid (e.lit = if e.kd = 2 then (e.it, 1, true) else if e.kd = 3 then (e.it, 2, true) else (0, 0, false)) := by
        rw [Hid]
        by_cases k2 : e.kd = 2
        · rw [lit_leaf hp (.inl k2), if_pos k2, if_pos k2]
        · by_cases k3 : e.kd = 3
          · rw [lit_leaf hp (.inr k3), if_neg k2, if_neg k2, if_pos k3]
          · rw [lit_other (by omega), if_neg k2, if_neg k3]
      rw [HL.out]
      obtain ⟨kd, pl, nm, it, dn, a, cap, l⟩ := e
      simp only [Ex.val, Ex.cells, List.toArray] at *
      clear hl hgd he hk hn hs ht hp hb0 HL
      go_enter Tryd.func36, Tryd.ntmps36
      go_wp2_with fail
      refine CP.mono ?_
      rintro x w2 ⟨rfl, hb⟩
      have HB : Hid (Below w.heap.size w w2) := HB0.out.trans (hb.mono (by simp))
      have y0 : w2.cell? ⟨w.heap.size, 0, none⟩ = some (.int .u8 kd) := (hb.cell (p := ⟨w.heap.size, 0, none⟩) (by simp)).trans (by simp)
      have y3 : w2.cell? ⟨w.heap.size, 3, none⟩ = some (.int .i64 it) := (hb.cell (p := ⟨w.heap.size, 3, none⟩) (by simp)).trans (by simp)
      clear hb CP
      by_cases k2 : kd = 2
      · subst k2
        go_wp2_with fail
        go_returns
        exact ⟨rfl, HB.out⟩
      · by_cases k3 : kd = 3
        · subst k3
          go_wp2_with fail
          go_returns
          exact ⟨rfl, HB.out⟩
        · have q2 : (kd == 2) = false := beq_false_of_ne k2
          have q3 : (kd == 3) = false := beq_false_of_ne k3
          have q5 : (kd == 5) = false := beq_false_of_ne k5
          go_wp2_with fail
          go_returns
          exact ⟨lit_ret rfl, HB.out⟩
end Go.Proofs.YthbjagmlcemefaaDoor
