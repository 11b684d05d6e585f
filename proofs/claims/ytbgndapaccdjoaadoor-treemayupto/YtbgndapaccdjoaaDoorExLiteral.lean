/- The document's answer of layer 4: Literal. -/
import Derived.Test.YtbgndapaccdjoaaDoorExShapes
namespace Go.Proofs.YtbgndapaccdjoaaDoor
open Go.RowKit
open Ex.size Ex.depth Ex.lies Ex.bulk Ex.good Ex.shape
attribute [local go_sem] later_size later_cell later_frozen later_setCell later_drew later_drewN later_tape drewN_setCell drewN_alloc drewN_later later_later lt_more lt_more1 lt_more2 lt_more3 lt_more4 lk0_0_1 lk1_0_1 lk2_0_1 lk0_0_2 lk1_0_2 lk2_0_2 lk0_1_2 lk0_0_3 lk1_0_3 lk2_0_3 lk0_1_3 lk0_2_3 lk0_0_4 lk1_0_4 lk2_0_4 lk0_1_4 lk0_2_4 lk0_3_4 lk0_0_5 lk1_0_5 lk2_0_5 lk0_1_5 lk0_2_5 lk0_3_5 lk0_4_5 lk0_0_6 lk1_0_6 lk2_0_6 lk0_1_6 lk0_2_6 lk0_3_6 lk0_4_6 lk0_5_6 lk0_0_7 lk1_0_7 lk2_0_7 lk0_1_7 lk0_2_7 lk0_3_7 lk0_4_7 lk0_5_7 lk0_6_7
/-- What stands behind a minus: a number? -/
def negOf : List Ex → Option Int
  | (.mk kd _ _ it _ _ _ _) :: _ => if kd = 2 then some it else none
  | [] => none
def litKind (kd it : Int) (l : List Ex) : Int × Int × Bool :=
  if kd = 2 then (it, 1, true) else if kd = 3 then (it, 2, true) else if kd = 5 then (match negOf l with | some x => (-x, 1, true) | none => (0, 0, false)) else (0, 0, false)
/-- The literal that it is. -/
def Ex.lit : Ex → Int × Int × Bool
  | .mk kd pl nm it dn a cap l => if (Ex.mk kd pl nm it dn a cap l).shape = true then litKind kd it l else (0, 0, false)
theorem lit_ret {a a' b b' : Int} {c c' : Bool} (h : (a, b, c) = (a', b', c')) : Ending.returned (.tuple #[.int .i64 a, .int .u8 b, .bool c]) = .returned (.tuple #[.int .i64 a', .int .u8 b', .bool c']) := by
  cases h
  rfl
set_option maxRecDepth 100000 in
set_option maxHeartbeats 6400000 in
theorem literal_calls (e : Ex) (he : e.bulk ≤ 1048576) (hgd : e.good) (w : World) (hl : e.lies w) : Calls Tryd.prog 12 #[e.val] w fun x w' => x = .returned (.tuple #[.int .i64 e.lit.1, .int .u8 e.lit.2.1, .bool e.lit.2.2]) ∧ Below w.heap.size w w' := by
  have CS := shape_calls e.size e (Nat.le_refl _) he
  obtain ⟨kd, pl, nm, it, dn, a, cap, l⟩ := e
  have C1 := CS _ (lies_below ((Below.refl w.heap.size w).alloc (Nat.le_refl _) (.cells #[.int .u8 kd, .int .i64 pl, .string nm, .int .i64 it, .int .i64 dn, .slice a l.length cap] 24)) _ hl)
  obtain ⟨b, o, hla, hlie⟩ := hl
  have HLit : Hid (Ex.lit (.mk kd pl nm it dn a cap l) = if (Ex.mk kd pl nm it dn a cap l).shape = true then litKind kd it l else (0, 0, false)) := by rw [Hid, Ex.lit]
  have HSh : Hid (Ex.shape (.mk kd pl nm it dn a cap l) = (argsOkB kd l.length && nameOkB kd nm && intOkB kd it && denOkB kd dn && shapes l)) := by rw [Hid, Ex.shape]
  obtain ⟨L, hL⟩ : ∃ L, L = Ex.lit (.mk kd pl nm it dn a cap l) := ⟨_, rfl⟩
  rw [← hL] at HLit ⊢
  generalize hz : Ex.shape (.mk kd pl nm it dn a cap l) = z at C1 HLit HSh
  simp only [Ex.val, Ex.cells, List.toArray] at C1 ⊢
  clear CS hz hL he
  rcases z with _ | _
  · have HLF : Hid (L = (0, 0, false)) := HLit.out
    clear HLit HSh
    go_enter Tryd.func12, Tryd.ntmps12
    go_wp2_with fail
    refine C1.mono ?_
    rintro x w1 ⟨rfl, hb1⟩
    have HB1 : Hid (Below w.heap.size w w1) := ((Below.refl w.heap.size w).alloc (Nat.le_refl _) _).trans (hb1.mono (by simp))
    clear hb1 C1
    go_wp2_with fail
    go_returns
    exact ⟨by rw [HLF.out] <;> rfl, HB1.out⟩
  · have HLT : Hid (L = litKind kd it l) := HLit.out
    clear HLit
    have hfin : ∀ w1, Below (w.alloc (.cells #[.int .u8 kd, .int .i64 pl, .string nm, .int .i64 it, .int .i64 dn, .slice a l.length cap] 24)).heap.size (w.alloc (.cells #[.int .u8 kd, .int .i64 pl, .string nm, .int .i64 it, .int .i64 dn, .slice a l.length cap] 24)) w1 →
        w1.cell? ⟨w.heap.size, 0, none⟩ = some (.int .u8 kd) ∧ w1.cell? ⟨w.heap.size, 3, none⟩ = some (.int .i64 it) ∧ w1.cell? ⟨w.heap.size, 5, none⟩ = some (.slice a l.length cap) ∧ Below w.heap.size w w1 := fun w1 hb1 =>
      ⟨(hb1.cell (p := ⟨w.heap.size, 0, none⟩) (by simp)).trans (by simp), (hb1.cell (p := ⟨w.heap.size, 3, none⟩) (by simp)).trans (by simp), (hb1.cell (p := ⟨w.heap.size, 5, none⟩) (by simp)).trans (by simp), ((Below.refl w.heap.size w).alloc (Nat.le_refl _) _).trans (hb1.mono (by simp))⟩
    by_cases h5 : kd = 5
    · subst h5
      have hA : argsOf 5 = 1 := by decide
      have hs := HSh.out.symm
      simp only [Bool.and_eq_true] at hs
      obtain ⟨⟨⟨⟨s1, s2⟩, s3⟩, s4⟩, s5⟩ := hs
      simp only [argsOkB, decide_eq_true_eq, hA] at s1
      have hlen : l.length = 1 := by omega
      match l, hlen with
      | [.mk kd1 pl1 nm1 it1 dn1 a1 cap1 l1], _ =>
      obtain rfl := hla (by simp)
      obtain ⟨hc, _, _⟩ := hlie
      have c0 : w.cell? ⟨b, o, none⟩ = some (.int .u8 kd1) := hc 0 (by omega)
      have c3 : w.cell? ⟨b, o + 3, none⟩ = some (.int .i64 it1) := hc 3 (by omega)
      have hblk : b < w.heap.size := World.block_lt_of_cell? w ⟨b, _, none⟩ c0
      obtain ⟨_, ⟨⟨_, _, _, g3, _⟩, _⟩, _⟩ := hgd
      have hb64 := bounds_i64 g3
      have HN : Hid (L = if kd1 = 2 then (-it1, 1, true) else (0, 0, false)) := by
        rw [Hid, HLT.out]
        simp only [litKind, negOf]
        by_cases hk : kd1 = 2 <;> simp [hk]
      have hpos : kd1 = 2 → 0 ≤ it1 := fun hk => by
        simp only [shapes, Bool.and_true] at s5
        rw [Ex.shape] at s5
        simp only [Bool.and_eq_true] at s5
        have := s5.1.1.2
        simp only [intOkB, hk, true_or, if_true, decide_eq_true_eq] at this
        exact this
      clear HLT HSh s1 s2 s3 s4 s5 hA hc
      by_cases hk : kd1 = 2
      · subst hk
        have hp := hpos rfl
        clear hpos
        go_enter Tryd.func12, Tryd.ntmps12
        go_wp2_with fail
        refine C1.mono ?_
        rintro x w1 ⟨rfl, hb1⟩
        obtain ⟨d0, d3, d5, hB⟩ := hfin w1 hb1
        have HB1 : Hid _ := hB
        have e0 : w1.cell? ⟨b, o, none⟩ = some (.int .u8 2) := (hB.cell (p := ⟨b, o, none⟩) hblk).trans c0
        have e3 : w1.cell? ⟨b, o + 3, none⟩ = some (.int .i64 it1) := (hB.cell (p := ⟨b, o + 3, none⟩) hblk).trans c3
        clear hb1 C1 hB hfin c0 c3
        go_wp2_with fail
        go_returns
        exact ⟨by rw [HN.out] <;> rfl, HB1.out⟩
      · have hk2 : (kd1 == 2) = false := beq_false_of_ne hk
        rw [if_neg hk] at HN
        clear hpos hk
        go_enter Tryd.func12, Tryd.ntmps12
        go_wp2_with fail
        refine C1.mono ?_
        rintro x w1 ⟨rfl, hb1⟩
        obtain ⟨d0, d3, d5, hB⟩ := hfin w1 hb1
        have HB1 : Hid _ := hB
        have e0 : w1.cell? ⟨b, o, none⟩ = some (.int .u8 kd1) := (hB.cell (p := ⟨b, o, none⟩) hblk).trans c0
        clear hb1 C1 hB hfin c0 c3
        go_wp2_with fail
        go_returns
        exact ⟨by rw [HN.out] <;> rfl, HB1.out⟩
    · have k5 : (kd == 5) = false := beq_false_of_ne h5
      clear hla hlie HSh hgd
      by_cases h2 : kd = 2
      · subst h2
        have HN : Hid (L = (it, 1, true)) := by rw [Hid, HLT.out]; rfl
        go_enter Tryd.func12, Tryd.ntmps12
        go_wp2_with fail
        refine C1.mono ?_
        rintro x w1 ⟨rfl, hb1⟩
        obtain ⟨d0, d3, d5, hB⟩ := hfin w1 hb1
        have HB1 : Hid _ := hB
        clear hb1 C1 hB hfin
        go_wp2_with fail
        go_returns
        exact ⟨by rw [HN.out] <;> rfl, HB1.out⟩
      by_cases h3 : kd = 3
      · subst h3
        have HN : Hid (L = (it, 2, true)) := by rw [Hid, HLT.out]; rfl
        go_enter Tryd.func12, Tryd.ntmps12
        go_wp2_with fail
        refine C1.mono ?_
        rintro x w1 ⟨rfl, hb1⟩
        obtain ⟨d0, d3, d5, hB⟩ := hfin w1 hb1
        have HB1 : Hid _ := hB
        clear hb1 C1 hB hfin
        go_wp2_with fail
        go_returns
        exact ⟨by rw [HN.out] <;> rfl, HB1.out⟩
      have k2 : (kd == 2) = false := beq_false_of_ne h2
      have k3 : (kd == 3) = false := beq_false_of_ne h3
      have HN : Hid (L = (0, 0, false)) := by rw [Hid, HLT.out, litKind, if_neg h2, if_neg h3, if_neg h5]
      clear h2 h3 h5
      go_enter Tryd.func12, Tryd.ntmps12
      go_wp2_with fail
      refine C1.mono ?_
      rintro x w1 ⟨rfl, hb1⟩
      obtain ⟨d0, d3, d5, hB⟩ := hfin w1 hb1
      have HB1 : Hid _ := hB
      clear hb1 C1 hB hfin
      go_wp2_with fail
      go_returns
      exact ⟨by rw [HN.out] <;> rfl, HB1.out⟩
end Go.Proofs.YtbgndapaccdjoaaDoor
