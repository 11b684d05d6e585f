/- The program's paramMay, paramsMay. -/
import Derived.Test.YthbgnpkgglbhjaaGreatDoorExAll
import Derived.Test.YthbgnpkgglbhjaaGreatDoorTreePart
namespace Go.Proofs.YthbgnpkgglbhjaaGreatDoor
open Go.RowKit
open Ex.size Ex.depth Ex.lies Ex.bulk Ex.good
attribute [local go_sem] later_size later_cell later_frozen later_setCell later_drew later_drewN later_tape drewN_setCell drewN_alloc drewN_later later_later lt_more lt_more1 lt_more2 lt_more3 lt_more4 lk0_0_1 lk1_0_1 lk2_0_1 lk0_0_2 lk1_0_2 lk2_0_2 lk0_1_2 lk0_0_3 lk1_0_3 lk2_0_3 lk0_1_3 lk0_2_3 lk0_0_4 lk1_0_4 lk2_0_4 lk0_1_4 lk0_2_4 lk0_3_4 lk0_0_5 lk1_0_5 lk2_0_5 lk0_1_5 lk0_2_5 lk0_3_5 lk0_4_5 lk0_0_6 lk1_0_6 lk2_0_6 lk0_1_6 lk0_2_6 lk0_3_6 lk0_4_6 lk0_5_6 lk0_0_7 lk1_0_7 lk2_0_7 lk0_1_7 lk0_2_7 lk0_3_7 lk0_4_7 lk0_5_7 lk0_6_7
def pmNums (p : Pm) : Bool := (p.ty == 1 || p.ty == 2) && decide (0 ≤ p.du) && (if p.rt then decide (1 ≤ p.pd) && decide (0 ≤ p.st) else p.pd == 0 && p.st == 0)
/-- May a param be, somewhere? -/
def pmB (p : Pm) : Bool := nameB p.nm && pmNums p
def pmsB (rate due : Bool) (p : Pm) : Bool := pmB p && !(p.rt && !rate) && !(decide (0 < p.du) && !due)
set_option maxRecDepth 100000 in
set_option maxHeartbeats 3200000 in
theorem paramMay_calls (p : Pm) (hs : p.nm.size ≤ 1048576) (w : World) : Calls Tryz.prog 133 #[p.val] w fun x w' => x = .returned (.bool (pmB p)) ∧ Below w.heap.size w w' := by
  have CN := lexName_calls p.nm (w.alloc (.cells p.cells.toArray 62)) hs
  have HP : Hid (pmB p = (nameB p.nm && pmNums p)) := rfl
  have HNm : Hid (pmNums p = ((p.ty == 1 || p.ty == 2) && decide (0 ≤ p.du) && (if p.rt then decide (1 ≤ p.pd) && decide (0 ≤ p.st) else p.pd == 0 && p.st == 0))) := rfl
  generalize pmB p = pb at *
  generalize pmNums p = pn at *
  generalize nameB p.nm = nb at *
  obtain ⟨nm, ty, pl, rt, pd, st, du⟩ := p
  simp only [Pm.val, Pm.cells, List.toArray] at *
  cases nb
  · go_enter Tryz.func133, Tryz.ntmps133
    go_wp2_with fail
    refine CN.mono ?_
    rintro x w2 ⟨rfl, hb⟩
    have HB : Hid (Below w.heap.size w w2) := ((Below.refl w.heap.size w).alloc (Nat.le_refl _) _).trans (hb.mono (by simp))
    clear hb CN
    go_wp2_with fail
    go_ret
    exact ⟨bool_ret (by rw [HP.out]; rfl), HB.out⟩
  · go_enter Tryz.func133, Tryz.ntmps133
    go_wp2_with fail
    refine CN.mono ?_
    rintro x w2 ⟨rfl, hb⟩
    have HB : Hid (Below w.heap.size w w2) := ((Below.refl w.heap.size w).alloc (Nat.le_refl _) _).trans (hb.mono (by simp))
    have e1 : w2.cell? ⟨w.heap.size, 1, none⟩ = some (.int .u8 ty) := (hb.cell (p := ⟨w.heap.size, 1, none⟩) (by simp)).trans (by simp)
    have e3 : w2.cell? ⟨w.heap.size, 3, none⟩ = some (.bool rt) := (hb.cell (p := ⟨w.heap.size, 3, none⟩) (by simp)).trans (by simp)
    have e4 : w2.cell? ⟨w.heap.size, 4, none⟩ = some (.int .i64 pd) := (hb.cell (p := ⟨w.heap.size, 4, none⟩) (by simp)).trans (by simp)
    have e5 : w2.cell? ⟨w.heap.size, 5, none⟩ = some (.int .i64 st) := (hb.cell (p := ⟨w.heap.size, 5, none⟩) (by simp)).trans (by simp)
    have e6 : w2.cell? ⟨w.heap.size, 6, none⟩ = some (.int .i64 du) := (hb.cell (p := ⟨w.heap.size, 6, none⟩) (by simp)).trans (by simp)
    clear hb CN
    cases rt
    · go_wp2
      all_goals go_ret
      all_goals exact ⟨bool_ret (by rw [HP.out, HNm.out, Bool.eq_iff_iff]; simp_all <;> omega), HB.out⟩
    · go_wp2
      all_goals go_ret
      all_goals exact ⟨bool_ret (by rw [HP.out, HNm.out, Bool.eq_iff_iff]; simp_all <;> omega), HB.out⟩
set_option maxRecDepth 100000 in
set_option maxHeartbeats 6400000 in
theorem paramsMay_calls (l : List Pm) (a : Option Addr) (cap : Nat) (rate due : Bool) (hg : ∀ p ∈ l, p.nm.size ≤ 1048576) (hn : l.length ≤ 1048576) (w : World) (hl : rowIn Pm.cells 7 w a l) :
    Calls Tryz.prog 120 #[.slice a l.length cap, .bool rate, .bool due] w fun x w' => x = .returned (.bool (l.all (pmsB rate due))) ∧ Below w.heap.size w w' := by
  obtain ⟨n, hN⟩ : ∃ n, n = l.length := ⟨_, rfl⟩
  rw [← hN] at hn ⊢
  have HN : Hid (n = l.length) := hN
  have HG : Hid _ := hg
  have HL : Hid (rowIn Pm.cells 7 w a l) := hl
  have HE : Hid (∀ k, k ≤ n → (l.take k).all (pmsB rate due) = true → k = n → l.all (pmsB rate due) = true) := fun k _ h e => by rw [e, hN, List.take_length] at h; exact h
  generalize hq : l.all (pmsB rate due) = q at *
  have HQ : Hid (l.all (pmsB rate due) = q) := hq
  clear hN hg hl hq
  go_enter Tryz.func120, Tryz.ntmps120
  go_wp2_with fail
  go_loopw [6, 11] (fun v i wr => ∃ k : Nat, k ≤ n ∧ v = .bool false ∧ i = .int .i64 k ∧ Hid (Below w.heap.size w wr) ∧ Hid ((l.take k).all (pmsB rate due) = true)) (fun _ i _ => n - (intOf i).toNat)
  case atStart => exact ⟨0, by omega, rfl, rfl, Below.refl _ _, by simp [Hid]⟩
  case round =>
    obtain ⟨k, hk, rfl, rfl, HB, HT⟩ := hrel
    by_cases hlt : k < n
    · have hkl : k < l.length := by rw [← HN.out]; exact hlt
      obtain ⟨b, o, rfl, hbl, hrow⟩ := HL.out (by intro h; rw [h] at hkl; simp at hkl)
      have hcr : ∀ j, j < 7 → wr.cell? ⟨b, o + k * 7 + j, none⟩ = l[k].cells[j]? := fun j hj => (HB.out.cell (p := ⟨b, o + k * 7 + j, none⟩) hbl).trans (hrow k hkl j hj)
      have CC := paramMay_calls l[k] (HG.out _ (List.getElem_mem hkl)) (wr.alloc (.cells l[k].cells.toArray 62))
      have HNx : Hid ((l.take (k + 1)).all (pmsB rate due) = pmsB rate due l[k]) := by
        rw [Hid, List.take_succ_eq_append_getElem hkl, List.all_append, HT.out]
        simp
      have HFalse : Hid (pmsB rate due l[k] = false → q = false) := fun h => by
        rw [← HQ.out, List.all_eq_false]
        exact ⟨_, List.getElem_mem hkl, by rw [h]; simp⟩
      have HPm : Hid (pmsB rate due l[k] = (pmB l[k] && !(l[k].rt && !rate) && !(decide (0 < l[k].du) && !due))) := rfl
      generalize pmsB rate due l[k] = qs at *
      generalize pmB l[k] = qp at *
      generalize l[k] = y at *
      obtain ⟨nm, ty, pl, rt, pd, st, du⟩ := y
      have c0 : wr.cell? ⟨b, o + k * 7, none⟩ = some (.string nm) := hcr 0 (by omega)
      have c1 : wr.cell? ⟨b, o + k * 7 + 1, none⟩ = some (.int .u8 ty) := hcr 1 (by omega)
      have c2 : wr.cell? ⟨b, o + k * 7 + 2, none⟩ = some (.int .i64 pl) := hcr 2 (by omega)
      have c3 : wr.cell? ⟨b, o + k * 7 + 3, none⟩ = some (.bool rt) := hcr 3 (by omega)
      have c4 : wr.cell? ⟨b, o + k * 7 + 4, none⟩ = some (.int .i64 pd) := hcr 4 (by omega)
      have c5 : wr.cell? ⟨b, o + k * 7 + 5, none⟩ = some (.int .i64 st) := hcr 5 (by omega)
      have c6 : wr.cell? ⟨b, o + k * 7 + 6, none⟩ = some (.int .i64 du) := hcr 6 (by omega)
      simp only [Pm.val, Pm.cells, List.toArray] at CC
      simp only at HPm
      clear hcr hrow
      go_wp2_with fail
      refine CC.mono ?_
      rintro x w2 ⟨rfl, hb⟩
      have HB2 : Hid (Below w.heap.size w w2) := HB.out.trans (((Below.refl wr.heap.size wr).alloc (Nat.le_refl _) _).trans (hb.mono (by simp)) |>.mono HB.out.size)
      have d3 : w2.cell? ⟨wr.heap.size, 3, none⟩ = some (.bool rt) := (hb.cell (p := ⟨wr.heap.size, 3, none⟩) (by simp)).trans (by simp)
      have d6 : w2.cell? ⟨wr.heap.size, 6, none⟩ = some (.int .i64 du) := (hb.cell (p := ⟨wr.heap.size, 6, none⟩) (by simp)).trans (by simp)
      clear hb CC c0 c1 c2 c3 c4 c5 c6
      have HQs : Hid (qs = (qp && (!rt || rate) && (!(decide (0 < du)) || due))) := by
        rw [Hid, HPm.out]
        cases qp <;> cases rt <;> cases rate <;> cases due <;> cases decide (0 < du) <;> rfl
      by_cases hdu : 0 < du
      all_goals
        (cases qp <;> cases rt <;> cases rate <;> cases due)
      all_goals go_wp2_with fail
      all_goals first
        | (have e : qs = true := by rw [HQs.out]; simp [hdu]
           go_roundw
           case rel => exact ⟨k + 1, by omega, rfl, by go_num, HB2, by rw [Hid, HNx.out]; exact e⟩
           case measure => simp [intOf]; omega)
        | (have e : qs = false := by rw [HQs.out]; simp [hdu]
           go_ret
           exact ⟨bool_ret (HFalse.out e).symm, HB2.out⟩)
    · obtain rfl : k = n := by omega
      go_wp2_with fail
      go_ret
      exact ⟨bool_ret (HE.out k (Nat.le_refl _) HT.out rfl).symm, HB.out⟩
end Go.Proofs.YthbgnpkgglbhjaaGreatDoor
