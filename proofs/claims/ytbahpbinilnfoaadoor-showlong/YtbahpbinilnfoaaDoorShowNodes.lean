/- The program's putParam. -/
import Derived.Test.YtbahpbinilnfoaaDoorTreeProgs
import Derived.OpenShut
import Derived.Test.YtbahpbinilnfoaaDoorShowOut
import Derived.Test.YtbahpbinilnfoaaDoorTreeParams
import Derived.Test.YtbahpbinilnfoaaDoorShowOne
namespace Go.Proofs.YtbahpbinilnfoaaDoor
open Go.RowKit
open Ex.size Ex.depth Ex.lies Ex.bulk Ex.good Ex.shape Ex.text
attribute [local go_sem] later_size later_cell later_frozen later_setCell later_drew later_drewN later_tape drewN_setCell drewN_alloc drewN_later later_later lt_more lt_more1 lt_more2 lt_more3 lt_more4 lk0_0_1 lk1_0_1 lk2_0_1 lk0_0_2 lk1_0_2 lk2_0_2 lk0_1_2 lk0_0_3 lk1_0_3 lk2_0_3 lk0_1_3 lk0_2_3 lk0_0_4 lk1_0_4 lk2_0_4 lk0_1_4 lk0_2_4 lk0_3_4 lk0_0_5 lk1_0_5 lk2_0_5 lk0_1_5 lk0_2_5 lk0_3_5 lk0_4_5 lk0_0_6 lk1_0_6 lk2_0_6 lk0_1_6 lk0_2_6 lk0_3_6 lk0_4_6 lk0_5_6 lk0_0_7 lk1_0_7 lk2_0_7 lk0_1_7 lk0_2_7 lk0_3_7 lk0_4_7 lk0_5_7 lk0_6_7
/-- Its numbers are numbers. -/
def Pm.wf (p : Pm) : Prop := (Lit.int .i64 p.pd).wf = true ∧ (Lit.int .i64 p.st).wf = true ∧ (Lit.int .i64 p.du).wf = true
def kindText (t : Int) : List UInt8 := if t = 2 then [98, 111, 111, 108] else [105, 110, 116]
def rateText (r : Bool) (p s : Int) : List UInt8 := if r = true then [32, 114, 97, 116, 101, 32, 40] ++ (Lib.itoa p ++ ([44, 32] ++ (Lib.itoa s ++ [41]))) else []
def dueText (d : Int) : List UInt8 := if 0 < d then [32, 100, 117, 101, 32] ++ Lib.itoa d else []
theorem pm_text (p : Pm) : p.text = (p.nm.data.toList ++ ([58, 32] ++ kindText p.ty)) ++ (rateText p.rt p.pd p.st ++ dueText p.du) := by
  unfold Pm.text kindText rateText dueText
  simp only [List.append_assoc]
set_option maxRecDepth 100000 in
set_option maxHeartbeats 3200000 in
theorem putParam_100 {W : World} {b : Nat} {pl pd st du : Int} {nm : ByteArray} (hwf : Pm.wf ⟨nm, 1, pl, false, pd, st, du⟩) (hdu : ¬ 0 < du) (s : List UInt8) (w : World) (hw : Writes W b s w) (hr : room s (Pm.text ⟨nm, 1, pl, false, pd, st, du⟩)) :
    Calls Tryd.prog 37 #[pv b, Pm.val ⟨nm, 1, pl, false, pd, st, du⟩] w fun r w' => r = .returned (.tuple #[]) ∧ Writes W b (s ++ Pm.text ⟨nm, 1, pl, false, pd, st, du⟩) w' ∧ Keeps b w w' := by
  obtain ⟨w1, w2, w3⟩ := hwf
  have HT : Hid (Pm.text ⟨nm, 1, pl, false, pd, st, du⟩ = (nm.data.toList ++ ([58, 32] ++ [105, 110, 116]))) := by
    rw [Hid, pm_text]
    have e2 : rateText false pd st = [] := rfl; simp only [dueText, if_neg hdu, e2, List.append_nil]
    rfl
  have HR : Hid (room s ((nm.data.toList ++ ([58, 32] ++ [105, 110, 116])))) := by rw [Hid, ← HT.out]; exact hr
  generalize Pm.text ⟨nm, 1, pl, false, pd, st, du⟩ = pt at *
  simp only [Pm.val, Pm.cells, List.toArray, pv] at *
  clear hr w1 w2 w3
  obtain ⟨W0, hW0⟩ : ∃ W0 : World, W0 = w.alloc (.cells #[.string nm, .int .u8 1, .int .i64 pl, .bool false, .int .i64 pd, .int .i64 st, .int .i64 du] 80) := ⟨_, rfl⟩
  have HS0 : Hid (W0.heap.size = w.heap.size + 1) := by rw [Hid, hW0]; simp
  have HBx : Hid (W0.heap[w.heap.size]? = some (.cells #[.string nm, .int .u8 1, .int .i64 pl, .bool false, .int .i64 pd, .int .i64 st, .int .i64 du] 80 (0, 0))) := by rw [Hid, hW0]; exact heap_at rfl
  have HW0 : Hid (Writes W b s W0) := by rw [Hid, hW0]; exact hw.alloc _
  have HK0 : Hid (Keeps b w W0) := by rw [Hid, hW0]; exact (Keeps.refl _ _).alloc _
  have HB0 : Hid (Keeps b W0 W0) := Keeps.refl _ _
  have HLT : Hid (b < w.heap.size) := hw.lt
  have HNe : Hid (w.heap.size ≠ b) := by have := HLT.out; rw [Hid]; omega
  have HE0 : Hid _ := hW0
  clear hW0 hw
  go_enter Tryd.func37, Tryd.ntmps37
  go_wp2_with fail
  rw [← HE0.out]
  refine (put_new [nm, ⟨#[58, 32]⟩, ⟨#[105, 110, 116]⟩] _ _ (t := (nm.data.toList ++ ([58, 32] ++ [105, 110, 116]))) (by simp [flat]) (by have := HS0.out; omega) HW0.out (by simp) HR.out).mono ?_
  rintro x w1 ⟨rfl, hw1, hk1⟩
  have HW1 : Hid (Writes W b (s ++ (nm.data.toList ++ ([58, 32] ++ [105, 110, 116]))) w1) := hw1
  have HB1 : Hid (Keeps b W0 w1) := HB0.out.trans (hk1)
  clear hw1 hk1
  have bx := HB1.out.block HBx.out HNe.out (by decide)
  have c3 : w1.cell? ⟨w.heap.size, 3, none⟩ = some (.bool false) := by rw [cell_of_row bx]; rfl
  have c4 : w1.cell? ⟨w.heap.size, 4, none⟩ = some (.int .i64 pd) := by rw [cell_of_row bx]; rfl
  have c5 : w1.cell? ⟨w.heap.size, 5, none⟩ = some (.int .i64 st) := by rw [cell_of_row bx]; rfl
  have c6 : w1.cell? ⟨w.heap.size, 6, none⟩ = some (.int .i64 du) := by rw [cell_of_row bx]; rfl
  clear bx
  go_wp2_with fail
  go_end0
  exact ⟨rfl, by rw [HT.out]; simpa using HW1.out, HK0.out.trans HB1.out⟩
set_option maxRecDepth 100000 in
set_option maxHeartbeats 3200000 in
theorem putParam_101 {W : World} {b : Nat} {pl pd st du : Int} {nm : ByteArray} (hwf : Pm.wf ⟨nm, 1, pl, false, pd, st, du⟩) (hdu : 0 < du) (hpow : HasPow W) (hng : 6 ≤ W.heap.size) (s : List UInt8) (w : World) (hw : Writes W b s w) (hr : room s (Pm.text ⟨nm, 1, pl, false, pd, st, du⟩)) :
    Calls Tryd.prog 37 #[pv b, Pm.val ⟨nm, 1, pl, false, pd, st, du⟩] w fun r w' => r = .returned (.tuple #[]) ∧ Writes W b (s ++ Pm.text ⟨nm, 1, pl, false, pd, st, du⟩) w' ∧ Keeps b w w' := by
  obtain ⟨w1, w2, w3⟩ := hwf
  obtain ⟨D, hD⟩ : ∃ D, D = Lib.itoa du := ⟨_, rfl⟩
  have CD : ∀ s w, Writes W b s w → Calls Tryd.prog 39 #[.int .i64 du] w fun e w' => e = .returned (.string ⟨D.toArray⟩) ∧ Gr w w' := fun s w hw => by rw [hD]; exact digits_calls du (num_range w3).1 (num_range w3).2 w (hpow.grown hw hng)
  have HT : Hid (Pm.text ⟨nm, 1, pl, false, pd, st, du⟩ = (nm.data.toList ++ ([58, 32] ++ [105, 110, 116])) ++ (([32, 100, 117, 101, 32] ++ D))) := by
    rw [Hid, pm_text, hD]
    simp only [dueText, if_pos hdu]
    rfl
  have HR : Hid (room s ((nm.data.toList ++ ([58, 32] ++ [105, 110, 116])) ++ (([32, 100, 117, 101, 32] ++ D)))) := by rw [Hid, ← HT.out]; exact hr
  generalize Pm.text ⟨nm, 1, pl, false, pd, st, du⟩ = pt at *
  simp only [Pm.val, Pm.cells, List.toArray, pv] at *
  clear hr hpow hD w1 w2 w3
  obtain ⟨W0, hW0⟩ : ∃ W0 : World, W0 = w.alloc (.cells #[.string nm, .int .u8 1, .int .i64 pl, .bool false, .int .i64 pd, .int .i64 st, .int .i64 du] 80) := ⟨_, rfl⟩
  have HS0 : Hid (W0.heap.size = w.heap.size + 1) := by rw [Hid, hW0]; simp
  have HBx : Hid (W0.heap[w.heap.size]? = some (.cells #[.string nm, .int .u8 1, .int .i64 pl, .bool false, .int .i64 pd, .int .i64 st, .int .i64 du] 80 (0, 0))) := by rw [Hid, hW0]; exact heap_at rfl
  have HW0 : Hid (Writes W b s W0) := by rw [Hid, hW0]; exact hw.alloc _
  have HK0 : Hid (Keeps b w W0) := by rw [Hid, hW0]; exact (Keeps.refl _ _).alloc _
  have HB0 : Hid (Keeps b W0 W0) := Keeps.refl _ _
  have HLT : Hid (b < w.heap.size) := hw.lt
  have HNe : Hid (w.heap.size ≠ b) := by have := HLT.out; rw [Hid]; omega
  have HE0 : Hid _ := hW0
  clear hW0 hw
  go_enter Tryd.func37, Tryd.ntmps37
  go_wp2_with fail
  rw [← HE0.out]
  refine (put_new [nm, ⟨#[58, 32]⟩, ⟨#[105, 110, 116]⟩] _ _ (t := (nm.data.toList ++ ([58, 32] ++ [105, 110, 116]))) (by simp [flat]) (by have := HS0.out; omega) HW0.out (by simp) (room_app HR.out).1).mono ?_
  rintro x w1 ⟨rfl, hw1, hk1⟩
  have HW1 : Hid (Writes W b (s ++ (nm.data.toList ++ ([58, 32] ++ [105, 110, 116]))) w1) := hw1
  have HB1 : Hid (Keeps b W0 w1) := HB0.out.trans (hk1)
  clear hw1 hk1
  have bx := HB1.out.block HBx.out HNe.out (by decide)
  have c3 : w1.cell? ⟨w.heap.size, 3, none⟩ = some (.bool false) := by rw [cell_of_row bx]; rfl
  have c4 : w1.cell? ⟨w.heap.size, 4, none⟩ = some (.int .i64 pd) := by rw [cell_of_row bx]; rfl
  have c5 : w1.cell? ⟨w.heap.size, 5, none⟩ = some (.int .i64 st) := by rw [cell_of_row bx]; rfl
  have c6 : w1.cell? ⟨w.heap.size, 6, none⟩ = some (.int .i64 du) := by rw [cell_of_row bx]; rfl
  clear bx
  go_wp2_with fail
  refine (CD _ _ HW1.out).mono ?_
  rintro x w8 ⟨rfl, hg8⟩
  have HW8 : Hid (Writes W b (s ++ (nm.data.toList ++ ([58, 32] ++ [105, 110, 116]))) w8) := HW1.out.below hg8.below
  have HB8 : Hid (Keeps b W0 w8) := HB1.out.below hg8.below
  clear hg8
  go_wp2_with fail
  refine (put_new [⟨#[32, 100, 117, 101, 32]⟩, ⟨D.toArray⟩] _ _ (t := ([32, 100, 117, 101, 32] ++ D)) (by simp [flat]) (by rfl) HW8.out (by simp) (room_app HR.out).2).mono ?_
  rintro x w9 ⟨rfl, hw9, hk9⟩
  have HW9 : Hid (Writes W b ((s ++ (nm.data.toList ++ ([58, 32] ++ [105, 110, 116]))) ++ ([32, 100, 117, 101, 32] ++ D)) w9) := hw9
  have HB9 : Hid (Keeps b W0 w9) := HB8.out.trans (hk9)
  clear hw9 hk9
  go_wp2_with fail
  go_end0
  exact ⟨rfl, by rw [HT.out]; simpa using HW9.out, HK0.out.trans HB9.out⟩
set_option maxRecDepth 100000 in
set_option maxHeartbeats 3200000 in
theorem putParam_110 {W : World} {b : Nat} {pl pd st du : Int} {nm : ByteArray} (hwf : Pm.wf ⟨nm, 1, pl, true, pd, st, du⟩) (hdu : ¬ 0 < du) (hpow : HasPow W) (hng : 6 ≤ W.heap.size) (s : List UInt8) (w : World) (hw : Writes W b s w) (hr : room s (Pm.text ⟨nm, 1, pl, true, pd, st, du⟩)) :
    Calls Tryd.prog 37 #[pv b, Pm.val ⟨nm, 1, pl, true, pd, st, du⟩] w fun r w' => r = .returned (.tuple #[]) ∧ Writes W b (s ++ Pm.text ⟨nm, 1, pl, true, pd, st, du⟩) w' ∧ Keeps b w w' := by
  obtain ⟨w1, w2, w3⟩ := hwf
  obtain ⟨N, hN⟩ : ∃ N, N = Lib.itoa pd := ⟨_, rfl⟩
  obtain ⟨M, hM⟩ : ∃ M, M = Lib.itoa st := ⟨_, rfl⟩
  have CN : ∀ s w, Writes W b s w → Calls Tryd.prog 39 #[.int .i64 pd] w fun e w' => e = .returned (.string ⟨N.toArray⟩) ∧ Gr w w' := fun s w hw => by rw [hN]; exact digits_calls pd (num_range w1).1 (num_range w1).2 w (hpow.grown hw hng)
  have CM : ∀ s w, Writes W b s w → Calls Tryd.prog 39 #[.int .i64 st] w fun e w' => e = .returned (.string ⟨M.toArray⟩) ∧ Gr w w' := fun s w hw => by rw [hM]; exact digits_calls st (num_range w2).1 (num_range w2).2 w (hpow.grown hw hng)
  have HT : Hid (Pm.text ⟨nm, 1, pl, true, pd, st, du⟩ = (nm.data.toList ++ ([58, 32] ++ [105, 110, 116])) ++ (([32, 114, 97, 116, 101, 32, 40] ++ (N ++ ([44, 32] ++ (M ++ [41])))))) := by
    rw [Hid, pm_text, hN, hM]
    simp only [dueText, if_neg hdu, List.append_nil]
    rfl
  have HR : Hid (room s ((nm.data.toList ++ ([58, 32] ++ [105, 110, 116])) ++ (([32, 114, 97, 116, 101, 32, 40] ++ (N ++ ([44, 32] ++ (M ++ [41]))))))) := by rw [Hid, ← HT.out]; exact hr
  generalize Pm.text ⟨nm, 1, pl, true, pd, st, du⟩ = pt at *
  simp only [Pm.val, Pm.cells, List.toArray, pv] at *
  clear hr hpow hN hM w1 w2 w3
  obtain ⟨W0, hW0⟩ : ∃ W0 : World, W0 = w.alloc (.cells #[.string nm, .int .u8 1, .int .i64 pl, .bool true, .int .i64 pd, .int .i64 st, .int .i64 du] 80) := ⟨_, rfl⟩
  have HS0 : Hid (W0.heap.size = w.heap.size + 1) := by rw [Hid, hW0]; simp
  have HBx : Hid (W0.heap[w.heap.size]? = some (.cells #[.string nm, .int .u8 1, .int .i64 pl, .bool true, .int .i64 pd, .int .i64 st, .int .i64 du] 80 (0, 0))) := by rw [Hid, hW0]; exact heap_at rfl
  have HW0 : Hid (Writes W b s W0) := by rw [Hid, hW0]; exact hw.alloc _
  have HK0 : Hid (Keeps b w W0) := by rw [Hid, hW0]; exact (Keeps.refl _ _).alloc _
  have HB0 : Hid (Keeps b W0 W0) := Keeps.refl _ _
  have HLT : Hid (b < w.heap.size) := hw.lt
  have HNe : Hid (w.heap.size ≠ b) := by have := HLT.out; rw [Hid]; omega
  have HE0 : Hid _ := hW0
  clear hW0 hw
  go_enter Tryd.func37, Tryd.ntmps37
  go_wp2_with fail
  rw [← HE0.out]
  refine (put_new [nm, ⟨#[58, 32]⟩, ⟨#[105, 110, 116]⟩] _ _ (t := (nm.data.toList ++ ([58, 32] ++ [105, 110, 116]))) (by simp [flat]) (by have := HS0.out; omega) HW0.out (by simp) (room_app HR.out).1).mono ?_
  rintro x w1 ⟨rfl, hw1, hk1⟩
  have HW1 : Hid (Writes W b (s ++ (nm.data.toList ++ ([58, 32] ++ [105, 110, 116]))) w1) := hw1
  have HB1 : Hid (Keeps b W0 w1) := HB0.out.trans (hk1)
  clear hw1 hk1
  have bx := HB1.out.block HBx.out HNe.out (by decide)
  have c3 : w1.cell? ⟨w.heap.size, 3, none⟩ = some (.bool true) := by rw [cell_of_row bx]; rfl
  have c4 : w1.cell? ⟨w.heap.size, 4, none⟩ = some (.int .i64 pd) := by rw [cell_of_row bx]; rfl
  have c5 : w1.cell? ⟨w.heap.size, 5, none⟩ = some (.int .i64 st) := by rw [cell_of_row bx]; rfl
  have c6 : w1.cell? ⟨w.heap.size, 6, none⟩ = some (.int .i64 du) := by rw [cell_of_row bx]; rfl
  clear bx
  go_wp2_with fail
  have hbw : w.heap.size < w1.heap.size := lt_of_block (HB1.out.block HBx.out HNe.out (by decide))
  have HW1d : Hid (Writes W b (s ++ (nm.data.toList ++ ([58, 32] ++ [105, 110, 116]))) w1.drew) := HW1.out.below ((Gr.refl w1).drew).below
  have HB1d : Hid (Keeps b W0 w1.drew) := HB1.out.below ((Gr.refl w1).drew).below
  go_region_held3 (fun w' => w'.cell? ⟨w.heap.size, 4, none⟩ = some (.int .i64 pd) ∧ w'.cell? ⟨w.heap.size, 5, none⟩ = some (.int .i64 st) ∧ w.heap.size < w'.heap.size) (go_simp) (first
    | (go_at_call 39; refine (CN _ _ (Hid.out (by assumption))).mono ?_; rintro r w5 ⟨rfl, hg5⟩; have hW5 : Hid (Writes W b (s ++ (nm.data.toList ++ ([58, 32] ++ [105, 110, 116]))) w5) := (by refine Writes.below (Hid.out ?_) hg5.below; assumption); have hB5 : Hid (Keeps b W0 w5) := (by refine Keeps.below (Hid.out ?_) hg5.below; assumption); have l4 : w5.cell? ⟨w.heap.size, 4, none⟩ = some (.int .i64 pd) := (by rw [cell_of_row (hB5.out.block HBx.out HNe.out (by decide))]; rfl); have l5 : w5.cell? ⟨w.heap.size, 5, none⟩ = some (.int .i64 st) := (by rw [cell_of_row (hB5.out.block HBx.out HNe.out (by decide))]; rfl); have lz : w.heap.size < w5.heap.size := lt_of_block (hB5.out.block HBx.out HNe.out (by decide)); clear hg5)
    | (go_at_call 39; refine (CM _ _ (Hid.out (by assumption))).mono ?_; rintro r w5 ⟨rfl, hg5⟩; have hW5 : Hid (Writes W b (s ++ (nm.data.toList ++ ([58, 32] ++ [105, 110, 116]))) w5) := (by refine Writes.below (Hid.out ?_) hg5.below; assumption); have hB5 : Hid (Keeps b W0 w5) := (by refine Keeps.below (Hid.out ?_) hg5.below; assumption); have l4 : w5.cell? ⟨w.heap.size, 4, none⟩ = some (.int .i64 pd) := (by rw [cell_of_row (hB5.out.block HBx.out HNe.out (by decide))]; rfl); have l5 : w5.cell? ⟨w.heap.size, 5, none⟩ = some (.int .i64 st) := (by rw [cell_of_row (hB5.out.block HBx.out HNe.out (by decide))]; rfl); have lz : w.heap.size < w5.heap.size := lt_of_block (hB5.out.block HBx.out HNe.out (by decide)); clear hg5)
    | (go_at_call 19; refine (put_new [⟨#[32, 114, 97, 116, 101, 32, 40]⟩, ⟨N.toArray⟩, ⟨#[44, 32]⟩, ⟨M.toArray⟩, ⟨#[41]⟩] _ _ (t := ([32, 114, 97, 116, 101, 32, 40] ++ (N ++ ([44, 32] ++ (M ++ [41]))))) (by simp [flat]) rfl (Hid.out (by assumption)) (by simp) (room_app HR.out).2).mono ?_; rintro r w7 ⟨rfl, hw7, hk7⟩; have HW7 : Hid (Writes W b ((s ++ (nm.data.toList ++ ([58, 32] ++ [105, 110, 116]))) ++ ([32, 114, 97, 116, 101, 32, 40] ++ (N ++ ([44, 32] ++ (M ++ [41]))))) w7) := hw7; have HB7 : Hid (Keeps b W0 w7) := (by refine Keeps.trans (Hid.out ?_) hk7; assumption); have l4 : w7.cell? ⟨w.heap.size, 4, none⟩ = some (.int .i64 pd) := (by rw [cell_of_row (HB7.out.block HBx.out HNe.out (by decide))]; rfl); have l5 : w7.cell? ⟨w.heap.size, 5, none⟩ = some (.int .i64 st) := (by rw [cell_of_row (HB7.out.block HBx.out HNe.out (by decide))]; rfl); have lz : w.heap.size < w7.heap.size := lt_of_block (HB7.out.block HBx.out HNe.out (by decide)); clear hw7 hk7))
  have c6b : w7.cell? ⟨w.heap.size, 6, none⟩ = some (.int .i64 du) := by rw [cell_of_row (HB7.out.block HBx.out HNe.out (by decide))]; rfl
  clear l4 l5 lz
  go_wp2_with fail
  go_end0
  exact ⟨rfl, by rw [HT.out]; simpa using HW7.out, HK0.out.trans HB7.out⟩
set_option maxRecDepth 100000 in
set_option maxHeartbeats 3200000 in
theorem putParam_111 {W : World} {b : Nat} {pl pd st du : Int} {nm : ByteArray} (hwf : Pm.wf ⟨nm, 1, pl, true, pd, st, du⟩) (hdu : 0 < du) (hpow : HasPow W) (hng : 6 ≤ W.heap.size) (s : List UInt8) (w : World) (hw : Writes W b s w) (hr : room s (Pm.text ⟨nm, 1, pl, true, pd, st, du⟩)) :
    Calls Tryd.prog 37 #[pv b, Pm.val ⟨nm, 1, pl, true, pd, st, du⟩] w fun r w' => r = .returned (.tuple #[]) ∧ Writes W b (s ++ Pm.text ⟨nm, 1, pl, true, pd, st, du⟩) w' ∧ Keeps b w w' := by
  obtain ⟨w1, w2, w3⟩ := hwf
  obtain ⟨N, hN⟩ : ∃ N, N = Lib.itoa pd := ⟨_, rfl⟩
  obtain ⟨M, hM⟩ : ∃ M, M = Lib.itoa st := ⟨_, rfl⟩
  have CN : ∀ s w, Writes W b s w → Calls Tryd.prog 39 #[.int .i64 pd] w fun e w' => e = .returned (.string ⟨N.toArray⟩) ∧ Gr w w' := fun s w hw => by rw [hN]; exact digits_calls pd (num_range w1).1 (num_range w1).2 w (hpow.grown hw hng)
  have CM : ∀ s w, Writes W b s w → Calls Tryd.prog 39 #[.int .i64 st] w fun e w' => e = .returned (.string ⟨M.toArray⟩) ∧ Gr w w' := fun s w hw => by rw [hM]; exact digits_calls st (num_range w2).1 (num_range w2).2 w (hpow.grown hw hng)
  obtain ⟨D, hD⟩ : ∃ D, D = Lib.itoa du := ⟨_, rfl⟩
  have CD : ∀ s w, Writes W b s w → Calls Tryd.prog 39 #[.int .i64 du] w fun e w' => e = .returned (.string ⟨D.toArray⟩) ∧ Gr w w' := fun s w hw => by rw [hD]; exact digits_calls du (num_range w3).1 (num_range w3).2 w (hpow.grown hw hng)
  have HT : Hid (Pm.text ⟨nm, 1, pl, true, pd, st, du⟩ = (nm.data.toList ++ ([58, 32] ++ [105, 110, 116])) ++ (([32, 114, 97, 116, 101, 32, 40] ++ (N ++ ([44, 32] ++ (M ++ [41])))) ++ (([32, 100, 117, 101, 32] ++ D)))) := by
    rw [Hid, pm_text, hN, hM, hD]
    simp only [dueText, if_pos hdu]
    rfl
  have HR : Hid (room s ((nm.data.toList ++ ([58, 32] ++ [105, 110, 116])) ++ (([32, 114, 97, 116, 101, 32, 40] ++ (N ++ ([44, 32] ++ (M ++ [41])))) ++ (([32, 100, 117, 101, 32] ++ D))))) := by rw [Hid, ← HT.out]; exact hr
  generalize Pm.text ⟨nm, 1, pl, true, pd, st, du⟩ = pt at *
  simp only [Pm.val, Pm.cells, List.toArray, pv] at *
  clear hr hpow hN hM hD w1 w2 w3
  obtain ⟨W0, hW0⟩ : ∃ W0 : World, W0 = w.alloc (.cells #[.string nm, .int .u8 1, .int .i64 pl, .bool true, .int .i64 pd, .int .i64 st, .int .i64 du] 80) := ⟨_, rfl⟩
  have HS0 : Hid (W0.heap.size = w.heap.size + 1) := by rw [Hid, hW0]; simp
  have HBx : Hid (W0.heap[w.heap.size]? = some (.cells #[.string nm, .int .u8 1, .int .i64 pl, .bool true, .int .i64 pd, .int .i64 st, .int .i64 du] 80 (0, 0))) := by rw [Hid, hW0]; exact heap_at rfl
  have HW0 : Hid (Writes W b s W0) := by rw [Hid, hW0]; exact hw.alloc _
  have HK0 : Hid (Keeps b w W0) := by rw [Hid, hW0]; exact (Keeps.refl _ _).alloc _
  have HB0 : Hid (Keeps b W0 W0) := Keeps.refl _ _
  have HLT : Hid (b < w.heap.size) := hw.lt
  have HNe : Hid (w.heap.size ≠ b) := by have := HLT.out; rw [Hid]; omega
  have HE0 : Hid _ := hW0
  clear hW0 hw
  go_enter Tryd.func37, Tryd.ntmps37
  go_wp2_with fail
  rw [← HE0.out]
  refine (put_new [nm, ⟨#[58, 32]⟩, ⟨#[105, 110, 116]⟩] _ _ (t := (nm.data.toList ++ ([58, 32] ++ [105, 110, 116]))) (by simp [flat]) (by have := HS0.out; omega) HW0.out (by simp) (room_app HR.out).1).mono ?_
  rintro x w1 ⟨rfl, hw1, hk1⟩
  have HW1 : Hid (Writes W b (s ++ (nm.data.toList ++ ([58, 32] ++ [105, 110, 116]))) w1) := hw1
  have HB1 : Hid (Keeps b W0 w1) := HB0.out.trans (hk1)
  clear hw1 hk1
  have bx := HB1.out.block HBx.out HNe.out (by decide)
  have c3 : w1.cell? ⟨w.heap.size, 3, none⟩ = some (.bool true) := by rw [cell_of_row bx]; rfl
  have c4 : w1.cell? ⟨w.heap.size, 4, none⟩ = some (.int .i64 pd) := by rw [cell_of_row bx]; rfl
  have c5 : w1.cell? ⟨w.heap.size, 5, none⟩ = some (.int .i64 st) := by rw [cell_of_row bx]; rfl
  have c6 : w1.cell? ⟨w.heap.size, 6, none⟩ = some (.int .i64 du) := by rw [cell_of_row bx]; rfl
  clear bx
  go_wp2_with fail
  have hbw : w.heap.size < w1.heap.size := lt_of_block (HB1.out.block HBx.out HNe.out (by decide))
  have HW1d : Hid (Writes W b (s ++ (nm.data.toList ++ ([58, 32] ++ [105, 110, 116]))) w1.drew) := HW1.out.below ((Gr.refl w1).drew).below
  have HB1d : Hid (Keeps b W0 w1.drew) := HB1.out.below ((Gr.refl w1).drew).below
  go_region_held3 (fun w' => w'.cell? ⟨w.heap.size, 4, none⟩ = some (.int .i64 pd) ∧ w'.cell? ⟨w.heap.size, 5, none⟩ = some (.int .i64 st) ∧ w.heap.size < w'.heap.size) (go_simp) (first
    | (go_at_call 39; refine (CN _ _ (Hid.out (by assumption))).mono ?_; rintro r w5 ⟨rfl, hg5⟩; have hW5 : Hid (Writes W b (s ++ (nm.data.toList ++ ([58, 32] ++ [105, 110, 116]))) w5) := (by refine Writes.below (Hid.out ?_) hg5.below; assumption); have hB5 : Hid (Keeps b W0 w5) := (by refine Keeps.below (Hid.out ?_) hg5.below; assumption); have l4 : w5.cell? ⟨w.heap.size, 4, none⟩ = some (.int .i64 pd) := (by rw [cell_of_row (hB5.out.block HBx.out HNe.out (by decide))]; rfl); have l5 : w5.cell? ⟨w.heap.size, 5, none⟩ = some (.int .i64 st) := (by rw [cell_of_row (hB5.out.block HBx.out HNe.out (by decide))]; rfl); have lz : w.heap.size < w5.heap.size := lt_of_block (hB5.out.block HBx.out HNe.out (by decide)); clear hg5)
    | (go_at_call 39; refine (CM _ _ (Hid.out (by assumption))).mono ?_; rintro r w5 ⟨rfl, hg5⟩; have hW5 : Hid (Writes W b (s ++ (nm.data.toList ++ ([58, 32] ++ [105, 110, 116]))) w5) := (by refine Writes.below (Hid.out ?_) hg5.below; assumption); have hB5 : Hid (Keeps b W0 w5) := (by refine Keeps.below (Hid.out ?_) hg5.below; assumption); have l4 : w5.cell? ⟨w.heap.size, 4, none⟩ = some (.int .i64 pd) := (by rw [cell_of_row (hB5.out.block HBx.out HNe.out (by decide))]; rfl); have l5 : w5.cell? ⟨w.heap.size, 5, none⟩ = some (.int .i64 st) := (by rw [cell_of_row (hB5.out.block HBx.out HNe.out (by decide))]; rfl); have lz : w.heap.size < w5.heap.size := lt_of_block (hB5.out.block HBx.out HNe.out (by decide)); clear hg5)
    | (go_at_call 19; refine (put_new [⟨#[32, 114, 97, 116, 101, 32, 40]⟩, ⟨N.toArray⟩, ⟨#[44, 32]⟩, ⟨M.toArray⟩, ⟨#[41]⟩] _ _ (t := ([32, 114, 97, 116, 101, 32, 40] ++ (N ++ ([44, 32] ++ (M ++ [41]))))) (by simp [flat]) rfl (Hid.out (by assumption)) (by simp) (room_app (room_app HR.out).2).1).mono ?_; rintro r w7 ⟨rfl, hw7, hk7⟩; have HW7 : Hid (Writes W b ((s ++ (nm.data.toList ++ ([58, 32] ++ [105, 110, 116]))) ++ ([32, 114, 97, 116, 101, 32, 40] ++ (N ++ ([44, 32] ++ (M ++ [41]))))) w7) := hw7; have HB7 : Hid (Keeps b W0 w7) := (by refine Keeps.trans (Hid.out ?_) hk7; assumption); have l4 : w7.cell? ⟨w.heap.size, 4, none⟩ = some (.int .i64 pd) := (by rw [cell_of_row (HB7.out.block HBx.out HNe.out (by decide))]; rfl); have l5 : w7.cell? ⟨w.heap.size, 5, none⟩ = some (.int .i64 st) := (by rw [cell_of_row (HB7.out.block HBx.out HNe.out (by decide))]; rfl); have lz : w.heap.size < w7.heap.size := lt_of_block (HB7.out.block HBx.out HNe.out (by decide)); clear hw7 hk7))
  have c6b : w7.cell? ⟨w.heap.size, 6, none⟩ = some (.int .i64 du) := by rw [cell_of_row (HB7.out.block HBx.out HNe.out (by decide))]; rfl
  clear l4 l5 lz
  go_wp2_with fail
  refine (CD _ _ HW7.out).mono ?_
  rintro x w8 ⟨rfl, hg8⟩
  have HW8 : Hid (Writes W b ((s ++ (nm.data.toList ++ ([58, 32] ++ [105, 110, 116]))) ++ ([32, 114, 97, 116, 101, 32, 40] ++ (N ++ ([44, 32] ++ (M ++ [41]))))) w8) := HW7.out.below hg8.below
  have HB8 : Hid (Keeps b W0 w8) := HB7.out.below hg8.below
  clear hg8
  go_wp2_with fail
  refine (put_new [⟨#[32, 100, 117, 101, 32]⟩, ⟨D.toArray⟩] _ _ (t := ([32, 100, 117, 101, 32] ++ D)) (by simp [flat]) (by rfl) HW8.out (by simp) (room_app (room_app HR.out).2).2).mono ?_
  rintro x w9 ⟨rfl, hw9, hk9⟩
  have HW9 : Hid (Writes W b (((s ++ (nm.data.toList ++ ([58, 32] ++ [105, 110, 116]))) ++ ([32, 114, 97, 116, 101, 32, 40] ++ (N ++ ([44, 32] ++ (M ++ [41]))))) ++ ([32, 100, 117, 101, 32] ++ D)) w9) := hw9
  have HB9 : Hid (Keeps b W0 w9) := HB8.out.trans (hk9)
  clear hw9 hk9
  go_wp2_with fail
  go_end0
  exact ⟨rfl, by rw [HT.out]; simpa using HW9.out, HK0.out.trans HB9.out⟩
set_option maxRecDepth 100000 in
set_option maxHeartbeats 3200000 in
theorem putParam_200 {W : World} {b : Nat} {pl pd st du : Int} {nm : ByteArray} (hwf : Pm.wf ⟨nm, 2, pl, false, pd, st, du⟩) (hdu : ¬ 0 < du) (s : List UInt8) (w : World) (hw : Writes W b s w) (hr : room s (Pm.text ⟨nm, 2, pl, false, pd, st, du⟩)) :
    Calls Tryd.prog 37 #[pv b, Pm.val ⟨nm, 2, pl, false, pd, st, du⟩] w fun r w' => r = .returned (.tuple #[]) ∧ Writes W b (s ++ Pm.text ⟨nm, 2, pl, false, pd, st, du⟩) w' ∧ Keeps b w w' := by
  obtain ⟨w1, w2, w3⟩ := hwf
  have HT : Hid (Pm.text ⟨nm, 2, pl, false, pd, st, du⟩ = (nm.data.toList ++ ([58, 32] ++ [98, 111, 111, 108]))) := by
    rw [Hid, pm_text]
    have e2 : rateText false pd st = [] := rfl; simp only [dueText, if_neg hdu, e2, List.append_nil]
    rfl
  have HR : Hid (room s ((nm.data.toList ++ ([58, 32] ++ [98, 111, 111, 108])))) := by rw [Hid, ← HT.out]; exact hr
  generalize Pm.text ⟨nm, 2, pl, false, pd, st, du⟩ = pt at *
  simp only [Pm.val, Pm.cells, List.toArray, pv] at *
  clear hr w1 w2 w3
  obtain ⟨W0, hW0⟩ : ∃ W0 : World, W0 = w.alloc (.cells #[.string nm, .int .u8 2, .int .i64 pl, .bool false, .int .i64 pd, .int .i64 st, .int .i64 du] 80) := ⟨_, rfl⟩
  have HS0 : Hid (W0.heap.size = w.heap.size + 1) := by rw [Hid, hW0]; simp
  have HBx : Hid (W0.heap[w.heap.size]? = some (.cells #[.string nm, .int .u8 2, .int .i64 pl, .bool false, .int .i64 pd, .int .i64 st, .int .i64 du] 80 (0, 0))) := by rw [Hid, hW0]; exact heap_at rfl
  have HW0 : Hid (Writes W b s W0) := by rw [Hid, hW0]; exact hw.alloc _
  have HK0 : Hid (Keeps b w W0) := by rw [Hid, hW0]; exact (Keeps.refl _ _).alloc _
  have HB0 : Hid (Keeps b W0 W0) := Keeps.refl _ _
  have HLT : Hid (b < w.heap.size) := hw.lt
  have HNe : Hid (w.heap.size ≠ b) := by have := HLT.out; rw [Hid]; omega
  have HE0 : Hid _ := hW0
  clear hW0 hw
  go_enter Tryd.func37, Tryd.ntmps37
  go_wp2_with fail
  rw [← HE0.out]
  refine (put_new [nm, ⟨#[58, 32]⟩, ⟨#[98, 111, 111, 108]⟩] _ _ (t := (nm.data.toList ++ ([58, 32] ++ [98, 111, 111, 108]))) (by simp [flat]) (by have := HS0.out; omega) HW0.out (by simp) HR.out).mono ?_
  rintro x w1 ⟨rfl, hw1, hk1⟩
  have HW1 : Hid (Writes W b (s ++ (nm.data.toList ++ ([58, 32] ++ [98, 111, 111, 108]))) w1) := hw1
  have HB1 : Hid (Keeps b W0 w1) := HB0.out.trans (hk1)
  clear hw1 hk1
  have bx := HB1.out.block HBx.out HNe.out (by decide)
  have c3 : w1.cell? ⟨w.heap.size, 3, none⟩ = some (.bool false) := by rw [cell_of_row bx]; rfl
  have c4 : w1.cell? ⟨w.heap.size, 4, none⟩ = some (.int .i64 pd) := by rw [cell_of_row bx]; rfl
  have c5 : w1.cell? ⟨w.heap.size, 5, none⟩ = some (.int .i64 st) := by rw [cell_of_row bx]; rfl
  have c6 : w1.cell? ⟨w.heap.size, 6, none⟩ = some (.int .i64 du) := by rw [cell_of_row bx]; rfl
  clear bx
  go_wp2_with fail
  go_end0
  exact ⟨rfl, by rw [HT.out]; simpa using HW1.out, HK0.out.trans HB1.out⟩
set_option maxRecDepth 100000 in
set_option maxHeartbeats 3200000 in
theorem putParam_201 {W : World} {b : Nat} {pl pd st du : Int} {nm : ByteArray} (hwf : Pm.wf ⟨nm, 2, pl, false, pd, st, du⟩) (hdu : 0 < du) (hpow : HasPow W) (hng : 6 ≤ W.heap.size) (s : List UInt8) (w : World) (hw : Writes W b s w) (hr : room s (Pm.text ⟨nm, 2, pl, false, pd, st, du⟩)) :
    Calls Tryd.prog 37 #[pv b, Pm.val ⟨nm, 2, pl, false, pd, st, du⟩] w fun r w' => r = .returned (.tuple #[]) ∧ Writes W b (s ++ Pm.text ⟨nm, 2, pl, false, pd, st, du⟩) w' ∧ Keeps b w w' := by
  obtain ⟨w1, w2, w3⟩ := hwf
  obtain ⟨D, hD⟩ : ∃ D, D = Lib.itoa du := ⟨_, rfl⟩
  have CD : ∀ s w, Writes W b s w → Calls Tryd.prog 39 #[.int .i64 du] w fun e w' => e = .returned (.string ⟨D.toArray⟩) ∧ Gr w w' := fun s w hw => by rw [hD]; exact digits_calls du (num_range w3).1 (num_range w3).2 w (hpow.grown hw hng)
  have HT : Hid (Pm.text ⟨nm, 2, pl, false, pd, st, du⟩ = (nm.data.toList ++ ([58, 32] ++ [98, 111, 111, 108])) ++ (([32, 100, 117, 101, 32] ++ D))) := by
    rw [Hid, pm_text, hD]
    simp only [dueText, if_pos hdu]
    rfl
  have HR : Hid (room s ((nm.data.toList ++ ([58, 32] ++ [98, 111, 111, 108])) ++ (([32, 100, 117, 101, 32] ++ D)))) := by rw [Hid, ← HT.out]; exact hr
  generalize Pm.text ⟨nm, 2, pl, false, pd, st, du⟩ = pt at *
  simp only [Pm.val, Pm.cells, List.toArray, pv] at *
  clear hr hpow hD w1 w2 w3
  obtain ⟨W0, hW0⟩ : ∃ W0 : World, W0 = w.alloc (.cells #[.string nm, .int .u8 2, .int .i64 pl, .bool false, .int .i64 pd, .int .i64 st, .int .i64 du] 80) := ⟨_, rfl⟩
  have HS0 : Hid (W0.heap.size = w.heap.size + 1) := by rw [Hid, hW0]; simp
  have HBx : Hid (W0.heap[w.heap.size]? = some (.cells #[.string nm, .int .u8 2, .int .i64 pl, .bool false, .int .i64 pd, .int .i64 st, .int .i64 du] 80 (0, 0))) := by rw [Hid, hW0]; exact heap_at rfl
  have HW0 : Hid (Writes W b s W0) := by rw [Hid, hW0]; exact hw.alloc _
  have HK0 : Hid (Keeps b w W0) := by rw [Hid, hW0]; exact (Keeps.refl _ _).alloc _
  have HB0 : Hid (Keeps b W0 W0) := Keeps.refl _ _
  have HLT : Hid (b < w.heap.size) := hw.lt
  have HNe : Hid (w.heap.size ≠ b) := by have := HLT.out; rw [Hid]; omega
  have HE0 : Hid _ := hW0
  clear hW0 hw
  go_enter Tryd.func37, Tryd.ntmps37
  go_wp2_with fail
  rw [← HE0.out]
  refine (put_new [nm, ⟨#[58, 32]⟩, ⟨#[98, 111, 111, 108]⟩] _ _ (t := (nm.data.toList ++ ([58, 32] ++ [98, 111, 111, 108]))) (by simp [flat]) (by have := HS0.out; omega) HW0.out (by simp) (room_app HR.out).1).mono ?_
  rintro x w1 ⟨rfl, hw1, hk1⟩
  have HW1 : Hid (Writes W b (s ++ (nm.data.toList ++ ([58, 32] ++ [98, 111, 111, 108]))) w1) := hw1
  have HB1 : Hid (Keeps b W0 w1) := HB0.out.trans (hk1)
  clear hw1 hk1
  have bx := HB1.out.block HBx.out HNe.out (by decide)
  have c3 : w1.cell? ⟨w.heap.size, 3, none⟩ = some (.bool false) := by rw [cell_of_row bx]; rfl
  have c4 : w1.cell? ⟨w.heap.size, 4, none⟩ = some (.int .i64 pd) := by rw [cell_of_row bx]; rfl
  have c5 : w1.cell? ⟨w.heap.size, 5, none⟩ = some (.int .i64 st) := by rw [cell_of_row bx]; rfl
  have c6 : w1.cell? ⟨w.heap.size, 6, none⟩ = some (.int .i64 du) := by rw [cell_of_row bx]; rfl
  clear bx
  go_wp2_with fail
  refine (CD _ _ HW1.out).mono ?_
  rintro x w8 ⟨rfl, hg8⟩
  have HW8 : Hid (Writes W b (s ++ (nm.data.toList ++ ([58, 32] ++ [98, 111, 111, 108]))) w8) := HW1.out.below hg8.below
  have HB8 : Hid (Keeps b W0 w8) := HB1.out.below hg8.below
  clear hg8
  go_wp2_with fail
  refine (put_new [⟨#[32, 100, 117, 101, 32]⟩, ⟨D.toArray⟩] _ _ (t := ([32, 100, 117, 101, 32] ++ D)) (by simp [flat]) (by rfl) HW8.out (by simp) (room_app HR.out).2).mono ?_
  rintro x w9 ⟨rfl, hw9, hk9⟩
  have HW9 : Hid (Writes W b ((s ++ (nm.data.toList ++ ([58, 32] ++ [98, 111, 111, 108]))) ++ ([32, 100, 117, 101, 32] ++ D)) w9) := hw9
  have HB9 : Hid (Keeps b W0 w9) := HB8.out.trans (hk9)
  clear hw9 hk9
  go_wp2_with fail
  go_end0
  exact ⟨rfl, by rw [HT.out]; simpa using HW9.out, HK0.out.trans HB9.out⟩
set_option maxRecDepth 100000 in
set_option maxHeartbeats 3200000 in
theorem putParam_210 {W : World} {b : Nat} {pl pd st du : Int} {nm : ByteArray} (hwf : Pm.wf ⟨nm, 2, pl, true, pd, st, du⟩) (hdu : ¬ 0 < du) (hpow : HasPow W) (hng : 6 ≤ W.heap.size) (s : List UInt8) (w : World) (hw : Writes W b s w) (hr : room s (Pm.text ⟨nm, 2, pl, true, pd, st, du⟩)) :
    Calls Tryd.prog 37 #[pv b, Pm.val ⟨nm, 2, pl, true, pd, st, du⟩] w fun r w' => r = .returned (.tuple #[]) ∧ Writes W b (s ++ Pm.text ⟨nm, 2, pl, true, pd, st, du⟩) w' ∧ Keeps b w w' := by
  obtain ⟨w1, w2, w3⟩ := hwf
  obtain ⟨N, hN⟩ : ∃ N, N = Lib.itoa pd := ⟨_, rfl⟩
  obtain ⟨M, hM⟩ : ∃ M, M = Lib.itoa st := ⟨_, rfl⟩
  have CN : ∀ s w, Writes W b s w → Calls Tryd.prog 39 #[.int .i64 pd] w fun e w' => e = .returned (.string ⟨N.toArray⟩) ∧ Gr w w' := fun s w hw => by rw [hN]; exact digits_calls pd (num_range w1).1 (num_range w1).2 w (hpow.grown hw hng)
  have CM : ∀ s w, Writes W b s w → Calls Tryd.prog 39 #[.int .i64 st] w fun e w' => e = .returned (.string ⟨M.toArray⟩) ∧ Gr w w' := fun s w hw => by rw [hM]; exact digits_calls st (num_range w2).1 (num_range w2).2 w (hpow.grown hw hng)
  have HT : Hid (Pm.text ⟨nm, 2, pl, true, pd, st, du⟩ = (nm.data.toList ++ ([58, 32] ++ [98, 111, 111, 108])) ++ (([32, 114, 97, 116, 101, 32, 40] ++ (N ++ ([44, 32] ++ (M ++ [41])))))) := by
    rw [Hid, pm_text, hN, hM]
    simp only [dueText, if_neg hdu, List.append_nil]
    rfl
  have HR : Hid (room s ((nm.data.toList ++ ([58, 32] ++ [98, 111, 111, 108])) ++ (([32, 114, 97, 116, 101, 32, 40] ++ (N ++ ([44, 32] ++ (M ++ [41]))))))) := by rw [Hid, ← HT.out]; exact hr
  generalize Pm.text ⟨nm, 2, pl, true, pd, st, du⟩ = pt at *
  simp only [Pm.val, Pm.cells, List.toArray, pv] at *
  clear hr hpow hN hM w1 w2 w3
  obtain ⟨W0, hW0⟩ : ∃ W0 : World, W0 = w.alloc (.cells #[.string nm, .int .u8 2, .int .i64 pl, .bool true, .int .i64 pd, .int .i64 st, .int .i64 du] 80) := ⟨_, rfl⟩
  have HS0 : Hid (W0.heap.size = w.heap.size + 1) := by rw [Hid, hW0]; simp
  have HBx : Hid (W0.heap[w.heap.size]? = some (.cells #[.string nm, .int .u8 2, .int .i64 pl, .bool true, .int .i64 pd, .int .i64 st, .int .i64 du] 80 (0, 0))) := by rw [Hid, hW0]; exact heap_at rfl
  have HW0 : Hid (Writes W b s W0) := by rw [Hid, hW0]; exact hw.alloc _
  have HK0 : Hid (Keeps b w W0) := by rw [Hid, hW0]; exact (Keeps.refl _ _).alloc _
  have HB0 : Hid (Keeps b W0 W0) := Keeps.refl _ _
  have HLT : Hid (b < w.heap.size) := hw.lt
  have HNe : Hid (w.heap.size ≠ b) := by have := HLT.out; rw [Hid]; omega
  have HE0 : Hid _ := hW0
  clear hW0 hw
  go_enter Tryd.func37, Tryd.ntmps37
  go_wp2_with fail
  rw [← HE0.out]
  refine (put_new [nm, ⟨#[58, 32]⟩, ⟨#[98, 111, 111, 108]⟩] _ _ (t := (nm.data.toList ++ ([58, 32] ++ [98, 111, 111, 108]))) (by simp [flat]) (by have := HS0.out; omega) HW0.out (by simp) (room_app HR.out).1).mono ?_
  rintro x w1 ⟨rfl, hw1, hk1⟩
  have HW1 : Hid (Writes W b (s ++ (nm.data.toList ++ ([58, 32] ++ [98, 111, 111, 108]))) w1) := hw1
  have HB1 : Hid (Keeps b W0 w1) := HB0.out.trans (hk1)
  clear hw1 hk1
  have bx := HB1.out.block HBx.out HNe.out (by decide)
  have c3 : w1.cell? ⟨w.heap.size, 3, none⟩ = some (.bool true) := by rw [cell_of_row bx]; rfl
  have c4 : w1.cell? ⟨w.heap.size, 4, none⟩ = some (.int .i64 pd) := by rw [cell_of_row bx]; rfl
  have c5 : w1.cell? ⟨w.heap.size, 5, none⟩ = some (.int .i64 st) := by rw [cell_of_row bx]; rfl
  have c6 : w1.cell? ⟨w.heap.size, 6, none⟩ = some (.int .i64 du) := by rw [cell_of_row bx]; rfl
  clear bx
  go_wp2_with fail
  have hbw : w.heap.size < w1.heap.size := lt_of_block (HB1.out.block HBx.out HNe.out (by decide))
  have HW1d : Hid (Writes W b (s ++ (nm.data.toList ++ ([58, 32] ++ [98, 111, 111, 108]))) w1.drew) := HW1.out.below ((Gr.refl w1).drew).below
  have HB1d : Hid (Keeps b W0 w1.drew) := HB1.out.below ((Gr.refl w1).drew).below
  go_region_held3 (fun w' => w'.cell? ⟨w.heap.size, 4, none⟩ = some (.int .i64 pd) ∧ w'.cell? ⟨w.heap.size, 5, none⟩ = some (.int .i64 st) ∧ w.heap.size < w'.heap.size) (go_simp) (first
    | (go_at_call 39; refine (CN _ _ (Hid.out (by assumption))).mono ?_; rintro r w5 ⟨rfl, hg5⟩; have hW5 : Hid (Writes W b (s ++ (nm.data.toList ++ ([58, 32] ++ [98, 111, 111, 108]))) w5) := (by refine Writes.below (Hid.out ?_) hg5.below; assumption); have hB5 : Hid (Keeps b W0 w5) := (by refine Keeps.below (Hid.out ?_) hg5.below; assumption); have l4 : w5.cell? ⟨w.heap.size, 4, none⟩ = some (.int .i64 pd) := (by rw [cell_of_row (hB5.out.block HBx.out HNe.out (by decide))]; rfl); have l5 : w5.cell? ⟨w.heap.size, 5, none⟩ = some (.int .i64 st) := (by rw [cell_of_row (hB5.out.block HBx.out HNe.out (by decide))]; rfl); have lz : w.heap.size < w5.heap.size := lt_of_block (hB5.out.block HBx.out HNe.out (by decide)); clear hg5)
    | (go_at_call 39; refine (CM _ _ (Hid.out (by assumption))).mono ?_; rintro r w5 ⟨rfl, hg5⟩; have hW5 : Hid (Writes W b (s ++ (nm.data.toList ++ ([58, 32] ++ [98, 111, 111, 108]))) w5) := (by refine Writes.below (Hid.out ?_) hg5.below; assumption); have hB5 : Hid (Keeps b W0 w5) := (by refine Keeps.below (Hid.out ?_) hg5.below; assumption); have l4 : w5.cell? ⟨w.heap.size, 4, none⟩ = some (.int .i64 pd) := (by rw [cell_of_row (hB5.out.block HBx.out HNe.out (by decide))]; rfl); have l5 : w5.cell? ⟨w.heap.size, 5, none⟩ = some (.int .i64 st) := (by rw [cell_of_row (hB5.out.block HBx.out HNe.out (by decide))]; rfl); have lz : w.heap.size < w5.heap.size := lt_of_block (hB5.out.block HBx.out HNe.out (by decide)); clear hg5)
    | (go_at_call 19; refine (put_new [⟨#[32, 114, 97, 116, 101, 32, 40]⟩, ⟨N.toArray⟩, ⟨#[44, 32]⟩, ⟨M.toArray⟩, ⟨#[41]⟩] _ _ (t := ([32, 114, 97, 116, 101, 32, 40] ++ (N ++ ([44, 32] ++ (M ++ [41]))))) (by simp [flat]) rfl (Hid.out (by assumption)) (by simp) (room_app HR.out).2).mono ?_; rintro r w7 ⟨rfl, hw7, hk7⟩; have HW7 : Hid (Writes W b ((s ++ (nm.data.toList ++ ([58, 32] ++ [98, 111, 111, 108]))) ++ ([32, 114, 97, 116, 101, 32, 40] ++ (N ++ ([44, 32] ++ (M ++ [41]))))) w7) := hw7; have HB7 : Hid (Keeps b W0 w7) := (by refine Keeps.trans (Hid.out ?_) hk7; assumption); have l4 : w7.cell? ⟨w.heap.size, 4, none⟩ = some (.int .i64 pd) := (by rw [cell_of_row (HB7.out.block HBx.out HNe.out (by decide))]; rfl); have l5 : w7.cell? ⟨w.heap.size, 5, none⟩ = some (.int .i64 st) := (by rw [cell_of_row (HB7.out.block HBx.out HNe.out (by decide))]; rfl); have lz : w.heap.size < w7.heap.size := lt_of_block (HB7.out.block HBx.out HNe.out (by decide)); clear hw7 hk7))
  have c6b : w7.cell? ⟨w.heap.size, 6, none⟩ = some (.int .i64 du) := by rw [cell_of_row (HB7.out.block HBx.out HNe.out (by decide))]; rfl
  clear l4 l5 lz
  go_wp2_with fail
  go_end0
  exact ⟨rfl, by rw [HT.out]; simpa using HW7.out, HK0.out.trans HB7.out⟩
set_option maxRecDepth 100000 in
set_option maxHeartbeats 3200000 in
theorem putParam_211 {W : World} {b : Nat} {pl pd st du : Int} {nm : ByteArray} (hwf : Pm.wf ⟨nm, 2, pl, true, pd, st, du⟩) (hdu : 0 < du) (hpow : HasPow W) (hng : 6 ≤ W.heap.size) (s : List UInt8) (w : World) (hw : Writes W b s w) (hr : room s (Pm.text ⟨nm, 2, pl, true, pd, st, du⟩)) :
    Calls Tryd.prog 37 #[pv b, Pm.val ⟨nm, 2, pl, true, pd, st, du⟩] w fun r w' => r = .returned (.tuple #[]) ∧ Writes W b (s ++ Pm.text ⟨nm, 2, pl, true, pd, st, du⟩) w' ∧ Keeps b w w' := by
  obtain ⟨w1, w2, w3⟩ := hwf
  obtain ⟨N, hN⟩ : ∃ N, N = Lib.itoa pd := ⟨_, rfl⟩
  obtain ⟨M, hM⟩ : ∃ M, M = Lib.itoa st := ⟨_, rfl⟩
  have CN : ∀ s w, Writes W b s w → Calls Tryd.prog 39 #[.int .i64 pd] w fun e w' => e = .returned (.string ⟨N.toArray⟩) ∧ Gr w w' := fun s w hw => by rw [hN]; exact digits_calls pd (num_range w1).1 (num_range w1).2 w (hpow.grown hw hng)
  have CM : ∀ s w, Writes W b s w → Calls Tryd.prog 39 #[.int .i64 st] w fun e w' => e = .returned (.string ⟨M.toArray⟩) ∧ Gr w w' := fun s w hw => by rw [hM]; exact digits_calls st (num_range w2).1 (num_range w2).2 w (hpow.grown hw hng)
  obtain ⟨D, hD⟩ : ∃ D, D = Lib.itoa du := ⟨_, rfl⟩
  have CD : ∀ s w, Writes W b s w → Calls Tryd.prog 39 #[.int .i64 du] w fun e w' => e = .returned (.string ⟨D.toArray⟩) ∧ Gr w w' := fun s w hw => by rw [hD]; exact digits_calls du (num_range w3).1 (num_range w3).2 w (hpow.grown hw hng)
  have HT : Hid (Pm.text ⟨nm, 2, pl, true, pd, st, du⟩ = (nm.data.toList ++ ([58, 32] ++ [98, 111, 111, 108])) ++ (([32, 114, 97, 116, 101, 32, 40] ++ (N ++ ([44, 32] ++ (M ++ [41])))) ++ (([32, 100, 117, 101, 32] ++ D)))) := by
    rw [Hid, pm_text, hN, hM, hD]
    simp only [dueText, if_pos hdu]
    rfl
  have HR : Hid (room s ((nm.data.toList ++ ([58, 32] ++ [98, 111, 111, 108])) ++ (([32, 114, 97, 116, 101, 32, 40] ++ (N ++ ([44, 32] ++ (M ++ [41])))) ++ (([32, 100, 117, 101, 32] ++ D))))) := by rw [Hid, ← HT.out]; exact hr
  generalize Pm.text ⟨nm, 2, pl, true, pd, st, du⟩ = pt at *
  simp only [Pm.val, Pm.cells, List.toArray, pv] at *
  clear hr hpow hN hM hD w1 w2 w3
  obtain ⟨W0, hW0⟩ : ∃ W0 : World, W0 = w.alloc (.cells #[.string nm, .int .u8 2, .int .i64 pl, .bool true, .int .i64 pd, .int .i64 st, .int .i64 du] 80) := ⟨_, rfl⟩
  have HS0 : Hid (W0.heap.size = w.heap.size + 1) := by rw [Hid, hW0]; simp
  have HBx : Hid (W0.heap[w.heap.size]? = some (.cells #[.string nm, .int .u8 2, .int .i64 pl, .bool true, .int .i64 pd, .int .i64 st, .int .i64 du] 80 (0, 0))) := by rw [Hid, hW0]; exact heap_at rfl
  have HW0 : Hid (Writes W b s W0) := by rw [Hid, hW0]; exact hw.alloc _
  have HK0 : Hid (Keeps b w W0) := by rw [Hid, hW0]; exact (Keeps.refl _ _).alloc _
  have HB0 : Hid (Keeps b W0 W0) := Keeps.refl _ _
  have HLT : Hid (b < w.heap.size) := hw.lt
  have HNe : Hid (w.heap.size ≠ b) := by have := HLT.out; rw [Hid]; omega
  have HE0 : Hid _ := hW0
  clear hW0 hw
  go_enter Tryd.func37, Tryd.ntmps37
  go_wp2_with fail
  rw [← HE0.out]
  refine (put_new [nm, ⟨#[58, 32]⟩, ⟨#[98, 111, 111, 108]⟩] _ _ (t := (nm.data.toList ++ ([58, 32] ++ [98, 111, 111, 108]))) (by simp [flat]) (by have := HS0.out; omega) HW0.out (by simp) (room_app HR.out).1).mono ?_
  rintro x w1 ⟨rfl, hw1, hk1⟩
  have HW1 : Hid (Writes W b (s ++ (nm.data.toList ++ ([58, 32] ++ [98, 111, 111, 108]))) w1) := hw1
  have HB1 : Hid (Keeps b W0 w1) := HB0.out.trans (hk1)
  clear hw1 hk1
  have bx := HB1.out.block HBx.out HNe.out (by decide)
  have c3 : w1.cell? ⟨w.heap.size, 3, none⟩ = some (.bool true) := by rw [cell_of_row bx]; rfl
  have c4 : w1.cell? ⟨w.heap.size, 4, none⟩ = some (.int .i64 pd) := by rw [cell_of_row bx]; rfl
  have c5 : w1.cell? ⟨w.heap.size, 5, none⟩ = some (.int .i64 st) := by rw [cell_of_row bx]; rfl
  have c6 : w1.cell? ⟨w.heap.size, 6, none⟩ = some (.int .i64 du) := by rw [cell_of_row bx]; rfl
  clear bx
  go_wp2_with fail
  have hbw : w.heap.size < w1.heap.size := lt_of_block (HB1.out.block HBx.out HNe.out (by decide))
  have HW1d : Hid (Writes W b (s ++ (nm.data.toList ++ ([58, 32] ++ [98, 111, 111, 108]))) w1.drew) := HW1.out.below ((Gr.refl w1).drew).below
  have HB1d : Hid (Keeps b W0 w1.drew) := HB1.out.below ((Gr.refl w1).drew).below
  go_region_held3 (fun w' => w'.cell? ⟨w.heap.size, 4, none⟩ = some (.int .i64 pd) ∧ w'.cell? ⟨w.heap.size, 5, none⟩ = some (.int .i64 st) ∧ w.heap.size < w'.heap.size) (go_simp) (first
    | (go_at_call 39; refine (CN _ _ (Hid.out (by assumption))).mono ?_; rintro r w5 ⟨rfl, hg5⟩; have hW5 : Hid (Writes W b (s ++ (nm.data.toList ++ ([58, 32] ++ [98, 111, 111, 108]))) w5) := (by refine Writes.below (Hid.out ?_) hg5.below; assumption); have hB5 : Hid (Keeps b W0 w5) := (by refine Keeps.below (Hid.out ?_) hg5.below; assumption); have l4 : w5.cell? ⟨w.heap.size, 4, none⟩ = some (.int .i64 pd) := (by rw [cell_of_row (hB5.out.block HBx.out HNe.out (by decide))]; rfl); have l5 : w5.cell? ⟨w.heap.size, 5, none⟩ = some (.int .i64 st) := (by rw [cell_of_row (hB5.out.block HBx.out HNe.out (by decide))]; rfl); have lz : w.heap.size < w5.heap.size := lt_of_block (hB5.out.block HBx.out HNe.out (by decide)); clear hg5)
    | (go_at_call 39; refine (CM _ _ (Hid.out (by assumption))).mono ?_; rintro r w5 ⟨rfl, hg5⟩; have hW5 : Hid (Writes W b (s ++ (nm.data.toList ++ ([58, 32] ++ [98, 111, 111, 108]))) w5) := (by refine Writes.below (Hid.out ?_) hg5.below; assumption); have hB5 : Hid (Keeps b W0 w5) := (by refine Keeps.below (Hid.out ?_) hg5.below; assumption); have l4 : w5.cell? ⟨w.heap.size, 4, none⟩ = some (.int .i64 pd) := (by rw [cell_of_row (hB5.out.block HBx.out HNe.out (by decide))]; rfl); have l5 : w5.cell? ⟨w.heap.size, 5, none⟩ = some (.int .i64 st) := (by rw [cell_of_row (hB5.out.block HBx.out HNe.out (by decide))]; rfl); have lz : w.heap.size < w5.heap.size := lt_of_block (hB5.out.block HBx.out HNe.out (by decide)); clear hg5)
    | (go_at_call 19; refine (put_new [⟨#[32, 114, 97, 116, 101, 32, 40]⟩, ⟨N.toArray⟩, ⟨#[44, 32]⟩, ⟨M.toArray⟩, ⟨#[41]⟩] _ _ (t := ([32, 114, 97, 116, 101, 32, 40] ++ (N ++ ([44, 32] ++ (M ++ [41]))))) (by simp [flat]) rfl (Hid.out (by assumption)) (by simp) (room_app (room_app HR.out).2).1).mono ?_; rintro r w7 ⟨rfl, hw7, hk7⟩; have HW7 : Hid (Writes W b ((s ++ (nm.data.toList ++ ([58, 32] ++ [98, 111, 111, 108]))) ++ ([32, 114, 97, 116, 101, 32, 40] ++ (N ++ ([44, 32] ++ (M ++ [41]))))) w7) := hw7; have HB7 : Hid (Keeps b W0 w7) := (by refine Keeps.trans (Hid.out ?_) hk7; assumption); have l4 : w7.cell? ⟨w.heap.size, 4, none⟩ = some (.int .i64 pd) := (by rw [cell_of_row (HB7.out.block HBx.out HNe.out (by decide))]; rfl); have l5 : w7.cell? ⟨w.heap.size, 5, none⟩ = some (.int .i64 st) := (by rw [cell_of_row (HB7.out.block HBx.out HNe.out (by decide))]; rfl); have lz : w.heap.size < w7.heap.size := lt_of_block (HB7.out.block HBx.out HNe.out (by decide)); clear hw7 hk7))
  have c6b : w7.cell? ⟨w.heap.size, 6, none⟩ = some (.int .i64 du) := by rw [cell_of_row (HB7.out.block HBx.out HNe.out (by decide))]; rfl
  clear l4 l5 lz
  go_wp2_with fail
  refine (CD _ _ HW7.out).mono ?_
  rintro x w8 ⟨rfl, hg8⟩
  have HW8 : Hid (Writes W b ((s ++ (nm.data.toList ++ ([58, 32] ++ [98, 111, 111, 108]))) ++ ([32, 114, 97, 116, 101, 32, 40] ++ (N ++ ([44, 32] ++ (M ++ [41]))))) w8) := HW7.out.below hg8.below
  have HB8 : Hid (Keeps b W0 w8) := HB7.out.below hg8.below
  clear hg8
  go_wp2_with fail
  refine (put_new [⟨#[32, 100, 117, 101, 32]⟩, ⟨D.toArray⟩] _ _ (t := ([32, 100, 117, 101, 32] ++ D)) (by simp [flat]) (by rfl) HW8.out (by simp) (room_app (room_app HR.out).2).2).mono ?_
  rintro x w9 ⟨rfl, hw9, hk9⟩
  have HW9 : Hid (Writes W b (((s ++ (nm.data.toList ++ ([58, 32] ++ [98, 111, 111, 108]))) ++ ([32, 114, 97, 116, 101, 32, 40] ++ (N ++ ([44, 32] ++ (M ++ [41]))))) ++ ([32, 100, 117, 101, 32] ++ D)) w9) := hw9
  have HB9 : Hid (Keeps b W0 w9) := HB8.out.trans (hk9)
  clear hw9 hk9
  go_wp2_with fail
  go_end0
  exact ⟨rfl, by rw [HT.out]; simpa using HW9.out, HK0.out.trans HB9.out⟩
theorem putParam_all {W : World} {b : Nat} (hpow : HasPow W) (hng : 6 ≤ W.heap.size) (p : Pm) (hwf : p.wf) (hty : p.ty = 1 ∨ p.ty = 2) (s : List UInt8) (w : World) (hw : Writes W b s w) (hr : room s p.text) :
    Calls Tryd.prog 37 #[pv b, p.val] w fun r w' => r = .returned (.tuple #[]) ∧ Writes W b (s ++ p.text) w' ∧ Keeps b w w' := by
  obtain ⟨nm, ty, pl, rt, pd, st, du⟩ := p
  simp only at hty
  by_cases hdu : 0 < du
  · rcases hty with rfl | rfl <;> cases rt
    · exact putParam_101 hwf hdu hpow hng s w hw hr
    · exact putParam_111 hwf hdu hpow hng s w hw hr
    · exact putParam_201 hwf hdu hpow hng s w hw hr
    · exact putParam_211 hwf hdu hpow hng s w hw hr
  · rcases hty with rfl | rfl <;> cases rt
    · exact putParam_100 hwf hdu s w hw hr
    · exact putParam_110 hwf hdu hpow hng s w hw hr
    · exact putParam_200 hwf hdu s w hw hr
    · exact putParam_210 hwf hdu hpow hng s w hw hr
end Go.Proofs.YtbahpbinilnfoaaDoor
/- The program's left and putParams of package show. -/
namespace Go.Proofs.YtbahpbinilnfoaaDoor
open Go.RowKit
open Ex.size Ex.depth Ex.lies Ex.bulk Ex.good Ex.shape Ex.text
attribute [local go_sem] later_size later_cell later_frozen later_setCell later_drew later_drewN later_tape drewN_setCell drewN_alloc drewN_later later_later lt_more lt_more1 lt_more2 lt_more3 lt_more4 lk0_0_1 lk1_0_1 lk2_0_1 lk0_0_2 lk1_0_2 lk2_0_2 lk0_1_2 lk0_0_3 lk1_0_3 lk2_0_3 lk0_1_3 lk0_2_3 lk0_0_4 lk1_0_4 lk2_0_4 lk0_1_4 lk0_2_4 lk0_3_4 lk0_0_5 lk1_0_5 lk2_0_5 lk0_1_5 lk0_2_5 lk0_3_5 lk0_4_5 lk0_0_6 lk1_0_6 lk2_0_6 lk0_1_6 lk0_2_6 lk0_3_6 lk0_4_6 lk0_5_6 lk0_0_7 lk1_0_7 lk2_0_7 lk0_1_7 lk0_2_7 lk0_3_7 lk0_4_7 lk0_5_7 lk0_6_7
theorem tail_rests (sep : List UInt8) (l : List (List UInt8)) : Lib.joinTail sep l = rests sep l := by
  induction l with
  | nil => rfl
  | cons x r ih => simp only [Lib.joinTail, List.map_cons, List.flatten_cons] at *; rw [ih]; rfl
theorem join_between (sep : List UInt8) (l : List (List UInt8)) : Lib.join l sep = between sep l := by
  cases l with
  | nil => rfl
  | cons x r => rw [Lib.join_cons, tail_rests]; rfl
theorem Tryd.builderExtra156 : Builder.Extra Tryd.prog Tryd.lays156_ren where
  sizeBuilder := by kernel_rfl
  liesBuilder := by kernel_rfl
  t5 := Tryd.underlying5
  a5 := Tryd.isAgg5
  z5 := Tryd.sizeOf5
  v5 := Tryd.zeroValue5
  infoByte := by kernel_rfl
  cellsByte := by kernel_rfl
  sizeByte := by kernel_rfl
  neB5 := by decide
theorem names_row {w : World} {a : Option Addr} {ns : List ByteArray} (h : rowIn textOf 1 w a ns) (h0 : ns ≠ []) : ∃ b o, a = some ⟨b, o, none⟩ ∧ b < w.heap.size ∧ ∀ i (hi : i < ns.length), w.cell? ⟨b, o + i, none⟩ = some (.string ns[i]) := by
  obtain ⟨b, o, rfl, h1, h2⟩ := h h0
  refine ⟨b, o, rfl, h1, fun i hi => ?_⟩
  have := h2 i hi 0 (by omega)
  simpa [textOf] using this
/-- Two texts, one behind the other. -/
theorem add_text (W : World) (a b : List UInt8) (h : a.length + b.length ≤ 140737488355328) : (Op.stringOp .add ⟨a.toArray⟩ ⟨b.toArray⟩).run Tryd.prog W = .ok (.string ⟨(a ++ b).toArray⟩) W := by
  have := run_string_add_sum (P := Tryd.prog) W ⟨a.toArray⟩ ⟨b.toArray⟩ (by
    have h1 : (ByteArray.mk a.toArray).size = a.length := rfl
    have h2 : (ByteArray.mk b.toArray).size = b.length := rfl
    omega)
  rw [this]
  congr 2
set_option maxRecDepth 100000 in
set_option maxHeartbeats 3200000 in
theorem left_calls (ns : List ByteArray) (a : Option Addr) (c : Nat) (w : World) (hr : rowIn textOf 1 w a ns) (h1 : 1 ≤ ns.length) (h2 : ns.length ≤ 32) (hc : ns.length ≤ c) (hs : ∀ s ∈ ns, s.size ≤ 1048576) :
    Calls Tryd.prog 24 #[.slice a ns.length c] w fun e w' => e = .returned (.string ⟨(leftOf ns).toArray⟩) ∧ Below w.heap.size w w' := by
  have h0 : ns ≠ [] := fun e => by rw [e] at h1; simp at h1
  obtain ⟨b, o, rfl, hb, hcl⟩ := names_row hr h0
  by_cases hl : ns.length = 1
  · obtain ⟨x, rfl⟩ : ∃ x, ns = [x] := by
      match ns, hl with
      | [x], _ => exact ⟨x, rfl⟩
    have c0 : w.cell? ⟨b, o, none⟩ = some (.string x) := hcl 0 (by simp)
    have hlo : leftOf [x] = x.data.toList := by simp [leftOf, between, rests]
    rw [hlo]
    simp only [List.length_cons, List.length_nil, Nat.zero_add]
    clear hcl hr hs h0 hlo hl h1 h2 hc
    go_enter Tryd.func24, Tryd.ntmps24
    go_wp2_with fail
    go_ret
    exact ⟨rfl, Below.refl _ _⟩
  · have hlen : (Lib.join (ns.map (·.data.toList)) [44, 32]).length ≤ 100000000 := by
      rw [join_between]
      have := rests_len [44, 32] (ns.map (·.data.toList)) 1048576 (fun x hx => by
        obtain ⟨s, hs1, rfl⟩ := List.mem_map.1 hx
        have := hs s hs1
        have h4 : s.data.toList.length = s.size := by simp
        omega)
      have h5 : (between [44, 32] (ns.map (·.data.toList))).length ≤ (rests [44, 32] (ns.map (·.data.toList))).length := by
        cases ns with
        | nil => simp [between]
        | cons x r => simp only [List.map_cons, between, rests, List.length_append]; omega
      simp only [List.length_map, List.length_cons, List.length_nil] at this
      have h6 : ns.length * (0 + 1 + 1 + 1048576) ≤ 32 * (0 + 1 + 1 + 1048576) := Nat.mul_le_mul_right _ h2
      omega
    have C := Any.strings_Join_many Tryd.lays156 Tryd.builderExtra156 b o c ns ⟨#[44, 32]⟩ w (fun j x hj => by
      obtain ⟨hj1, hj2⟩ := List.getElem?_eq_some_iff.1 hj
      rw [← hj2]
      exact hcl j hj1) hb (by omega) (by omega) hc (by show (Lib.join (ns.map (·.data.toList)) [44, 32]).length ≤ _; omega)
    have CJ2 : Calls Tryd.prog 38 #[.slice (some ⟨b, o, none⟩) ns.length c, .string ⟨#[44, 32]⟩] w fun e w' => e = .returned (.string ⟨(between [44, 32] (ns.map (·.data.toList))).toArray⟩) ∧ Below w.heap.size w w' := by
      rw [← join_between]
      exact C
    have hJL : (between [44, 32] (ns.map (·.data.toList))).length ≤ 100000000 := by rw [← join_between]; exact hlen
    have HLO : Hid (leftOf ns = [40] ++ between [44, 32] (ns.map (·.data.toList)) ++ [41]) := by rw [Hid, leftOf, if_neg hl]
    generalize leftOf ns = lo at *
    generalize between [44, 32] (ns.map (·.data.toList)) = J at *
    have a1 : ∀ W, (Op.stringOp .add ⟨#[40]⟩ ⟨J.toArray⟩).run Tryd.prog W = .ok (.string ⟨([40] ++ J).toArray⟩) W := fun W => add_text W [40] J (by simp only [List.length_cons, List.length_nil]; omega)
    have a2 : ∀ W, (Op.stringOp .add ⟨([40] ++ J).toArray⟩ ⟨#[41]⟩).run Tryd.prog W = .ok (.string ⟨lo.toArray⟩) W := fun W => by
      rw [HLO.out]
      exact add_text W ([40] ++ J) [41] (by simp only [List.length_append, List.length_cons, List.length_nil]; omega)
    generalize [40] ++ J = K1 at *
    clear hcl hr hs h0 hlen C hJL
    generalize ns.length = n at *
    have hne : ((n : Int) == 1) = false := beq_false_of_ne (by omega)
    clear hl HLO
    go_enter Tryd.func24, Tryd.ntmps24
    go_wp2_with fail
    refine CJ2.mono ?_
    rintro x w1 ⟨rfl, hb1⟩
    have HB1 : Hid _ := hb1
    clear CJ2 hb1
    go_wp2_with fail
    go_ret
    exact ⟨rfl, HB1.out⟩
set_option maxRecDepth 100000 in
set_option maxHeartbeats 3200000 in
theorem putParams_calls {W : World} {b : Nat} (hpow : HasPow W) (hng : 6 ≤ W.heap.size) (l : List Pm) (a : Option Addr) (c : Nat) (hl : rowIn Pm.cells 7 W a l) (hn : l.length ≤ 1048576) (hok : ∀ p ∈ l, p.wf ∧ (p.ty = 1 ∨ p.ty = 2)) (s : List UInt8) (w : World) (hw : Writes W b s w) (hr : room s (pmsText l)) :
    Calls Tryd.prog 23 #[pv b, .slice a l.length c] w fun r w' => r = .returned (.tuple #[]) ∧ Writes W b (s ++ pmsText l) w' ∧ Keeps b w w' := by
  obtain ⟨ts, hts⟩ : ∃ ts, ts = l.map Pm.text := ⟨_, rfl⟩
  have HTS : Hid _ := hts
  have HT : Hid (pmsText l = between [59, 32] ts) := by rw [Hid, hts]; rfl
  have HR : Hid (room s (between [59, 32] ts ++ [])) := by rw [Hid, List.append_nil, ← HT.out]; exact hr
  generalize pmsText l = pt at *
  obtain ⟨n, hn2⟩ : ∃ n, n = l.length := ⟨_, rfl⟩
  have HN : Hid (n = l.length) := hn2
  have HLen : Hid (ts.length = n) := by rw [Hid, hts, List.length_map, hn2]
  have HIH : Hid (∀ p ∈ l, ∀ s w, Writes W b s w → room s p.text → Calls Tryd.prog 37 #[pv b, p.val] w fun r w' => r = .returned (.tuple #[]) ∧ Writes W b (s ++ p.text) w' ∧ Keeps b w w') := fun p hp s w hw hr => putParam_all hpow hng p (hok p hp).1 (hok p hp).2 s w hw hr
  have HL : Hid _ := hl
  simp only [pv] at *
  rw [← hn2] at hn ⊢
  have HW0 : Hid (Writes W b s w) := hw
  clear hw hts hn2 hr hl hok hpow hng
  go_enter Tryd.func23, Tryd.ntmps23
  go_wp2_with fail
  go_loopw [8] (fun i wr => ∃ k : Nat, k ≤ n ∧ i = .int .i64 k ∧ Hid (Writes W b (s ++ between [59, 32] (ts.take k)) wr) ∧ Hid (Keeps b w wr)) (fun i _ => n - (intOf i).toNat)
  case atStart => exact ⟨0, by omega, rfl, by simpa [Hid, between] using HW0.out, Keeps.refl _ _⟩
  case round =>
    obtain ⟨k, hk, rfl, HWr, HBr⟩ := hrel
    by_cases hlt : k < n
    · have hkl : k < l.length := by rw [← HN.out]; exact hlt
      have hkt : k < ts.length := by rw [HLen.out]; exact hlt
      obtain ⟨bA, oA, rfl, hbA, hrow⟩ := HL.out (by intro h; rw [h] at hkl; simp at hkl)
      have hcr := old_cells (n := 7) HWr.out.bel hbA (fun j hj => hrow k hkl j hj)
      have HF : Hid (between [59, 32] (ts.take (k + 1)) = between [59, 32] (ts.take k) ++ (if 0 < k then [59, 32] else []) ++ ts[k]) := between_at _ _ _ hkt
      have HRk : Hid (room (s ++ between [59, 32] (ts.take k)) ((if 0 < k then [59, 32] else []) ++ ts[k])) := room_between HR.out k hkt
      have hx : ts[k] = l[k].text := by simp [HTS.out]
      have CX0 := HIH.out l[k] (List.getElem_mem hkl)
      rw [← hx] at CX0
      generalize ts[k] = tk at *
      generalize l[k] = x at *
      obtain ⟨nx, tx, px, rx, pdx, sx, dx⟩ := x
      simp only [Pm.val, Pm.cells, List.toArray] at CX0 hcr
      have c0 : wr.cell? ⟨bA, oA + k * 7, none⟩ = some (.string nx) := hcr 0 (by omega)
      have c1 : wr.cell? ⟨bA, oA + k * 7 + 1, none⟩ = some (.int .u8 tx) := hcr 1 (by omega)
      have c2 : wr.cell? ⟨bA, oA + k * 7 + 2, none⟩ = some (.int .i64 px) := hcr 2 (by omega)
      have c3 : wr.cell? ⟨bA, oA + k * 7 + 3, none⟩ = some (.bool rx) := hcr 3 (by omega)
      have c4 : wr.cell? ⟨bA, oA + k * 7 + 4, none⟩ = some (.int .i64 pdx) := hcr 4 (by omega)
      have c5 : wr.cell? ⟨bA, oA + k * 7 + 5, none⟩ = some (.int .i64 sx) := hcr 5 (by omega)
      have c6 : wr.cell? ⟨bA, oA + k * 7 + 6, none⟩ = some (.int .i64 dx) := hcr 6 (by omega)
      have hbl : bA < wr.heap.size := World.block_lt_of_cell? wr ⟨bA, oA + k * 7, none⟩ c0
      obtain ⟨W1, hW1⟩ : ∃ W1 : World, W1 = wr.alloc (.cells #[.string nx, .int .u8 tx, .int .i64 px, .bool rx, .int .i64 pdx, .int .i64 sx, .int .i64 dx] 80) := ⟨_, rfl⟩
      have HS1 : Hid (W1.heap.size = wr.heap.size + 1) := by rw [Hid, hW1]; simp
      have HBy : Hid (W1.heap[wr.heap.size]? = some (.cells #[.string nx, .int .u8 tx, .int .i64 px, .bool rx, .int .i64 pdx, .int .i64 sx, .int .i64 dx] 80 (0, 0))) := by rw [Hid, hW1]; exact heap_at rfl
      have HWa : Hid (Writes W b (s ++ between [59, 32] (ts.take k)) W1) := by rw [Hid, hW1]; exact HWr.out.alloc _
      have HBa : Hid (Keeps b w W1) := by rw [Hid, hW1]; exact HBr.out.alloc _
      have HNy : Hid (wr.heap.size ≠ b) := by have := HWr.out.lt; rw [Hid]; omega
      have HE1 : Hid _ := hW1
      clear hW1 hrow hcr hx hkl hkt
      by_cases h0 : 0 < k
      · have HF1 : Hid (between [59, 32] (ts.take (k + 1)) = between [59, 32] (ts.take k) ++ ([59, 32] ++ tk)) := by rw [Hid, HF.out, if_pos h0, List.append_assoc]
        have HR2 : Hid (room (s ++ between [59, 32] (ts.take k)) ([59, 32] ++ tk)) := by have := HRk.out; rw [if_pos h0] at this; exact this
        go_wp2_with fail
        rw [← HE1.out]
        refine (put_new [⟨#[59, 32]⟩] _ _ (t := [59, 32]) rfl (by have := HS1.out; omega) HWa.out (by simp) (room_app HR2.out).1).mono ?_
        rintro x w2 ⟨rfl, hw2, hk2⟩
        have HW2 : Hid (Writes W b ((s ++ between [59, 32] (ts.take k)) ++ [59, 32]) w2) := hw2
        have HB2 : Hid (Keeps b w w2) := HBa.out.trans hk2
        have bx := hk2.block HBy.out HNy.out (by decide)
        have d0 : w2.cell? ⟨wr.heap.size, 0, none⟩ = some (.string nx) := by rw [cell_of_row bx]; rfl
        have d1 : w2.cell? ⟨wr.heap.size, 1, none⟩ = some (.int .u8 tx) := by rw [cell_of_row bx]; rfl
        have d2 : w2.cell? ⟨wr.heap.size, 2, none⟩ = some (.int .i64 px) := by rw [cell_of_row bx]; rfl
        have d3 : w2.cell? ⟨wr.heap.size, 3, none⟩ = some (.bool rx) := by rw [cell_of_row bx]; rfl
        have d4 : w2.cell? ⟨wr.heap.size, 4, none⟩ = some (.int .i64 pdx) := by rw [cell_of_row bx]; rfl
        have d5 : w2.cell? ⟨wr.heap.size, 5, none⟩ = some (.int .i64 sx) := by rw [cell_of_row bx]; rfl
        have d6 : w2.cell? ⟨wr.heap.size, 6, none⟩ = some (.int .i64 dx) := by rw [cell_of_row bx]; rfl
        clear hw2 hk2 bx c0 c1 c2 c3 c4 c5 c6 hbl
        go_wp2_with fail
        refine (CX0 _ _ HW2.out (room_app HR2.out).2).mono ?_
        rintro x w3 ⟨rfl, hw3, hk3⟩
        have HW3 : Hid (Writes W b (s ++ between [59, 32] (ts.take (k + 1))) w3) := by rw [Hid, HF1.out]; simpa using hw3
        have HB3 : Hid (Keeps b w w3) := HB2.out.trans hk3
        clear hw3 hk3 d0 d1 d2 d3 d4 d5 d6
        go_wp2_with fail
        go_roundw
        case rel => exact ⟨k + 1, by omega, by go_num, HW3, HB3⟩
        case measure => simp [intOf]; omega
      · obtain rfl : k = 0 := by omega
        have HF1 : Hid (between [59, 32] (ts.take (0 + 1)) = between [59, 32] (ts.take 0) ++ tk) := by rw [Hid, HF.out, if_neg h0, List.append_nil]
        have HR2 : Hid (room (s ++ between [59, 32] (ts.take 0)) tk) := by have := HRk.out; rw [if_neg h0] at this; exact this
        clear h0
        simp only [Nat.zero_mul, Nat.add_zero] at c0 c1 c2 c3 c4 c5 c6
        go_wp2_with fail
        rw [← HE1.out]
        refine (CX0 _ _ HWa.out HR2.out).mono ?_
        rintro x w3 ⟨rfl, hw3, hk3⟩
        have HW3 : Hid (Writes W b (s ++ between [59, 32] (ts.take (0 + 1))) w3) := by rw [Hid, HF1.out]; simpa using hw3
        have HB3 : Hid (Keeps b w w3) := HBa.out.trans hk3
        clear hw3 hk3 c0 c1 c2 c3 c4 c5 c6 hbl
        go_wp2_with fail
        go_roundw
        case rel => exact ⟨1, by omega, by go_num, HW3, HB3⟩
        case measure => simp [intOf]; omega
    · obtain rfl : k = n := by omega
      have HWE : Hid (Writes W b (s ++ between [59, 32] ts) wr) := by have := HWr.out; rw [← HLen.out, List.take_length] at this; exact this
      go_wp2_with fail
      go_end0
      exact ⟨rfl, by rw [HT.out]; exact HWE.out, HBr.out⟩
end Go.Proofs.YtbahpbinilnfoaaDoor
/- The program's putNode. -/
namespace Go.Proofs.YtbahpbinilnfoaaDoor
open Go.RowKit
open Ex.size Ex.depth Ex.lies Ex.bulk Ex.good Ex.shape Ex.text
attribute [local go_sem] later_size later_cell later_frozen later_setCell later_drew later_drewN later_tape drewN_setCell drewN_alloc drewN_later later_later lt_more lt_more1 lt_more2 lt_more3 lt_more4 lk0_0_1 lk1_0_1 lk2_0_1 lk0_0_2 lk1_0_2 lk2_0_2 lk0_1_2 lk0_0_3 lk1_0_3 lk2_0_3 lk0_1_3 lk0_2_3 lk0_0_4 lk1_0_4 lk2_0_4 lk0_1_4 lk0_2_4 lk0_3_4 lk0_0_5 lk1_0_5 lk2_0_5 lk0_1_5 lk0_2_5 lk0_3_5 lk0_4_5 lk0_0_6 lk1_0_6 lk2_0_6 lk0_1_6 lk0_2_6 lk0_3_6 lk0_4_6 lk0_5_6 lk0_0_7 lk1_0_7 lk2_0_7 lk0_1_7 lk0_2_7 lk0_3_7 lk0_4_7 lk0_5_7 lk0_6_7
theorem flat_at2 (l : List (List UInt8)) (k : Nat) (h : k < l.length) : (l.take (k + 1)).flatten = (l.take k).flatten ++ l[k] := by
  rw [List.take_succ_eq_append_getElem h, List.flatten_append]
  simp only [List.flatten_cons, List.flatten_nil, List.append_nil]
theorem room_flat {s u : List UInt8} {l : List (List UInt8)} (h : room s (l.flatten ++ u)) (k : Nat) (hk : k < l.length) : room (s ++ (l.take k).flatten) l[k] := by
  have h1 := congrArg List.length (flat_at2 l k hk)
  have h2 : l.flatten = (l.take (k + 1)).flatten ++ (l.drop (k + 1)).flatten := by rw [← List.flatten_append, List.take_append_drop]
  have h3 := congrArg List.length h2
  simp only [room, List.length_append] at *
  omega
/-- What a params list asks of the writer. -/
def PutsPms (W : World) (b : Nat) (a : Option Addr) (c : Nat) (l : List Pm) : Prop := ∀ s w, Writes W b s w → room s (pmsText l) → Calls Tryd.prog 23 #[pv b, .slice a l.length c] w fun r w' => r = .returned (.tuple #[]) ∧ Writes W b (s ++ pmsText l) w' ∧ Keeps b w w'
def PutsLeft (W : World) (q : Eqn) : Prop := ∀ w, Below W.heap.size W w → Calls Tryd.prog 24 #[.slice q.na q.ns.length q.nc] w fun e w' => e = .returned (.string ⟨(leftOf q.ns).toArray⟩) ∧ Below w.heap.size w w'
theorem eqn_text (q : Eqn) : q.text = ([32, 32] ++ (leftOf q.ns ++ [32, 61, 32])) ++ (q.e.text ++ [59, 10]) := by
  unfold Eqn.text
  simp only [List.append_assoc]
set_option maxRecDepth 100000 in
set_option maxHeartbeats 6400000 in
theorem putNode_00 {W : World} {b : Nat} {nm : ByteArray} {pl : Int} {ia oa va qa : Option Addr} {ic oc vc qc : Nat} {ins outs : List Pm} {eqs : List Eqn} (hin : PutsPms W b ia ic ins) (hout : PutsPms W b oa oc outs) (hrow : rowIn Eqn.cells 8 W qa eqs) (hn : eqs.length ≤ 1048576) (hq : ∀ q ∈ eqs, PutsLeft W q ∧ PutsExpr W b q.e) (s : List UInt8) (w : World) (hw : Writes W b s w) (hr : room s (Nd.text ⟨false, nm, pl, ia, ic, ins, oa, oc, outs, va, vc, [], qa, qc, eqs⟩)) :
    Calls Tryd.prog 12 #[pv b, Nd.val ⟨false, nm, pl, ia, ic, ins, oa, oc, outs, va, vc, [], qa, qc, eqs⟩] w fun r w' => r = .returned (.tuple #[]) ∧ Writes W b (s ++ Nd.text ⟨false, nm, pl, ia, ic, ins, oa, oc, outs, va, vc, [], qa, qc, eqs⟩) w' ∧ Keeps b w w' := by
  obtain ⟨ts, hts⟩ : ∃ ts, ts = eqs.map Eqn.text := ⟨_, rfl⟩
  have HTS : Hid _ := hts
  obtain ⟨I, hI⟩ : ∃ I, I = pmsText ins := ⟨_, rfl⟩
  obtain ⟨O, hO⟩ : ∃ O, O = pmsText outs := ⟨_, rfl⟩
  obtain ⟨E, hE⟩ : ∃ E, E = eqsText eqs := ⟨_, rfl⟩
  have HT : Hid (Nd.text ⟨false, nm, pl, ia, ic, ins, oa, oc, outs, va, vc, [], qa, qc, eqs⟩ = ([110, 111, 100, 101, 32] ++ (nm.data.toList ++ [40])) ++ (I ++ ([41, 32, 114, 101, 116, 117, 114, 110, 115, 32, 40] ++ (O ++ ([41, 10] ++ ([108, 101, 116, 10] ++ (E ++ ([116, 101, 108, 10])))))))) := by
    rw [Hid, hI, hO, hE, Nd.text]
    simp only [List.append_assoc, List.nil_append, if_true]
    rfl
  have HEt : Hid (E = ts.flatten) := by rw [Hid, hE, hts]; rfl
  have HR : Hid (room s (([110, 111, 100, 101, 32] ++ (nm.data.toList ++ [40])) ++ (I ++ ([41, 32, 114, 101, 116, 117, 114, 110, 115, 32, 40] ++ (O ++ ([41, 10] ++ ([108, 101, 116, 10] ++ (E ++ ([116, 101, 108, 10]))))))))) := by rw [Hid, ← HT.out]; exact hr
  generalize Nd.text ⟨false, nm, pl, ia, ic, ins, oa, oc, outs, va, vc, [], qa, qc, eqs⟩ = pt at *
  unfold PutsPms at hin hout
  rw [← hI] at hin
  rw [← hO] at hout
  obtain ⟨n, hn2⟩ : ∃ n, n = eqs.length := ⟨_, rfl⟩
  obtain ⟨n1, hn3⟩ : ∃ n, n = ins.length := ⟨_, rfl⟩
  obtain ⟨n2, hn4⟩ : ∃ n, n = outs.length := ⟨_, rfl⟩
  have HN : Hid (n = eqs.length) := hn2
  have HLen : Hid (ts.length = n) := by rw [Hid, hts, List.length_map, hn2]
  have HQ : Hid _ := hq
  have HL : Hid _ := hrow
  simp only [Nd.val, Nd.cells, List.toArray, pv, List.length_nil, ← hn2, ← hn3, ← hn4] at hin hout hn ⊢
  obtain ⟨W0, hW0⟩ : ∃ W0 : World, W0 = w.alloc (.cells #[.bool false, .string nm, .int .i64 pl, .slice ia n1 ic, .slice oa n2 oc, .slice va 0 vc, .slice qa n qc] 37) := ⟨_, rfl⟩
  have HS0 : Hid (W0.heap.size = w.heap.size + 1) := by rw [Hid, hW0]; simp
  have HBx : Hid (W0.heap[w.heap.size]? = some (.cells #[.bool false, .string nm, .int .i64 pl, .slice ia n1 ic, .slice oa n2 oc, .slice va 0 vc, .slice qa n qc] 37 (0, 0))) := by rw [Hid, hW0]; exact heap_at rfl
  have HW0 : Hid (Writes W b s W0) := by rw [Hid, hW0]; exact hw.alloc _
  have HK0 : Hid (Keeps b w W0) := by rw [Hid, hW0]; exact (Keeps.refl _ _).alloc _
  have HB0 : Hid (Keeps b W0 W0) := Keeps.refl _ _
  have HLT : Hid (b < w.heap.size) := hw.lt
  have HNe : Hid (w.heap.size ≠ b) := by have := HLT.out; rw [Hid]; omega
  have HE0 : Hid _ := hW0
  clear hW0 hw hts hn2 hn3 hn4 hI hO hE hr hrow hq
  go_enter Tryd.func12, Tryd.ntmps12
  go_wp2_with fail
  rw [← HE0.out]
  refine (put_new [⟨#[110, 111, 100, 101, 32]⟩, nm, ⟨#[40]⟩] _ _ (t := ([110, 111, 100, 101, 32] ++ (nm.data.toList ++ [40]))) (by first | rfl | simp [flat]) (by have := HS0.out; omega) HW0.out (by simp) (room_app HR.out).1).mono ?_
  rintro x w1 ⟨rfl, hw1, hk1⟩
  have HW1 : Hid (Writes W b (s ++ ([110, 111, 100, 101, 32] ++ (nm.data.toList ++ [40]))) w1) := hw1
  have HB1 : Hid (Keeps b W0 w1) := HB0.out.trans (hk1)
  clear hw1 hk1
  have HR1 : Hid (room (s ++ ([110, 111, 100, 101, 32] ++ (nm.data.toList ++ [40]))) (I ++ ([41, 32, 114, 101, 116, 117, 114, 110, 115, 32, 40] ++ (O ++ ([41, 10] ++ ([108, 101, 116, 10] ++ (E ++ ([116, 101, 108, 10])))))))) := (room_app HR.out).2
  have bx := HB1.out.block HBx.out HNe.out (by decide)
  have c3 : w1.cell? ⟨w.heap.size, 3, none⟩ = some (.slice ia n1 ic) := by rw [cell_of_row bx]; rfl
  clear bx
  go_wp2_with fail
  clear c3
  refine (hin _ _ HW1.out (room_app HR1.out).1).mono ?_
  rintro x w2 ⟨rfl, hw2, hk2⟩
  have HW2 : Hid (Writes W b ((s ++ ([110, 111, 100, 101, 32] ++ (nm.data.toList ++ [40]))) ++ I) w2) := hw2
  have HB2 : Hid (Keeps b W0 w2) := HB1.out.trans (hk2)
  clear hw2 hk2
  have HR2 : Hid (room ((s ++ ([110, 111, 100, 101, 32] ++ (nm.data.toList ++ [40]))) ++ I) ([41, 32, 114, 101, 116, 117, 114, 110, 115, 32, 40] ++ (O ++ ([41, 10] ++ ([108, 101, 116, 10] ++ (E ++ ([116, 101, 108, 10]))))))) := (room_app HR1.out).2
  go_wp2_with fail
  refine (put_new [⟨#[41, 32, 114, 101, 116, 117, 114, 110, 115, 32, 40]⟩] _ _ (t := [41, 32, 114, 101, 116, 117, 114, 110, 115, 32, 40]) (by first | rfl | simp [flat]) (by rfl) HW2.out (by simp) (room_app HR2.out).1).mono ?_
  rintro x w3 ⟨rfl, hw3, hk3⟩
  have HW3 : Hid (Writes W b (((s ++ ([110, 111, 100, 101, 32] ++ (nm.data.toList ++ [40]))) ++ I) ++ [41, 32, 114, 101, 116, 117, 114, 110, 115, 32, 40]) w3) := hw3
  have HB3 : Hid (Keeps b W0 w3) := HB2.out.trans (hk3)
  clear hw3 hk3
  have HR3 : Hid (room (((s ++ ([110, 111, 100, 101, 32] ++ (nm.data.toList ++ [40]))) ++ I) ++ [41, 32, 114, 101, 116, 117, 114, 110, 115, 32, 40]) (O ++ ([41, 10] ++ ([108, 101, 116, 10] ++ (E ++ ([116, 101, 108, 10])))))) := (room_app HR2.out).2
  have bx := HB3.out.block HBx.out HNe.out (by decide)
  have c4 : w3.cell? ⟨w.heap.size, 4, none⟩ = some (.slice oa n2 oc) := by rw [cell_of_row bx]; rfl
  clear bx
  go_wp2_with fail
  clear c4
  refine (hout _ _ HW3.out (room_app HR3.out).1).mono ?_
  rintro x w4 ⟨rfl, hw4, hk4⟩
  have HW4 : Hid (Writes W b ((((s ++ ([110, 111, 100, 101, 32] ++ (nm.data.toList ++ [40]))) ++ I) ++ [41, 32, 114, 101, 116, 117, 114, 110, 115, 32, 40]) ++ O) w4) := hw4
  have HB4 : Hid (Keeps b W0 w4) := HB3.out.trans (hk4)
  clear hw4 hk4
  have HR4 : Hid (room ((((s ++ ([110, 111, 100, 101, 32] ++ (nm.data.toList ++ [40]))) ++ I) ++ [41, 32, 114, 101, 116, 117, 114, 110, 115, 32, 40]) ++ O) ([41, 10] ++ ([108, 101, 116, 10] ++ (E ++ ([116, 101, 108, 10]))))) := (room_app HR3.out).2
  go_wp2_with fail
  refine (put_new [⟨#[41, 10]⟩] _ _ (t := [41, 10]) (by first | rfl | simp [flat]) (by rfl) HW4.out (by simp) (room_app HR4.out).1).mono ?_
  rintro x w5 ⟨rfl, hw5, hk5⟩
  have HW5 : Hid (Writes W b (((((s ++ ([110, 111, 100, 101, 32] ++ (nm.data.toList ++ [40]))) ++ I) ++ [41, 32, 114, 101, 116, 117, 114, 110, 115, 32, 40]) ++ O) ++ [41, 10]) w5) := hw5
  have HB5 : Hid (Keeps b W0 w5) := HB4.out.trans (hk5)
  clear hw5 hk5
  have HR5 : Hid (room (((((s ++ ([110, 111, 100, 101, 32] ++ (nm.data.toList ++ [40]))) ++ I) ++ [41, 32, 114, 101, 116, 117, 114, 110, 115, 32, 40]) ++ O) ++ [41, 10]) ([108, 101, 116, 10] ++ (E ++ ([116, 101, 108, 10])))) := (room_app HR4.out).2
  have bx := HB5.out.block HBx.out HNe.out (by decide)
  have c5 : w5.cell? ⟨w.heap.size, 5, none⟩ = some (.slice va 0 vc) := by rw [cell_of_row bx]; rfl
  clear bx
  go_wp2_with fail
  clear c5
  refine (put_new [⟨#[108, 101, 116, 10]⟩] _ _ (t := [108, 101, 116, 10]) (by first | rfl | simp [flat]) (by rfl) HW5.out (by simp) (room_app HR5.out).1).mono ?_
  rintro x w6 ⟨rfl, hw6, hk6⟩
  have HW6 : Hid (Writes W b ((((((s ++ ([110, 111, 100, 101, 32] ++ (nm.data.toList ++ [40]))) ++ I) ++ [41, 32, 114, 101, 116, 117, 114, 110, 115, 32, 40]) ++ O) ++ [41, 10]) ++ [108, 101, 116, 10]) w6) := hw6
  have HB6 : Hid (Keeps b W0 w6) := HB5.out.trans (hk6)
  clear hw6 hk6
  have HR6 : Hid (room ((((((s ++ ([110, 111, 100, 101, 32] ++ (nm.data.toList ++ [40]))) ++ I) ++ [41, 32, 114, 101, 116, 117, 114, 110, 115, 32, 40]) ++ O) ++ [41, 10]) ++ [108, 101, 116, 10]) (E ++ ([116, 101, 108, 10]))) := (room_app HR5.out).2
  have bx := HB6.out.block HBx.out HNe.out (by decide)
  have c6 : w6.cell? ⟨w.heap.size, 6, none⟩ = some (.slice qa n qc) := by rw [cell_of_row bx]; rfl
  clear bx
  go_wp2_with fail
  clear c6
  obtain ⟨S, hS⟩ : ∃ S, S = ((((((s ++ ([110, 111, 100, 101, 32] ++ (nm.data.toList ++ [40]))) ++ I) ++ [41, 32, 114, 101, 116, 117, 114, 110, 115, 32, 40]) ++ O) ++ [41, 10]) ++ [108, 101, 116, 10]) := ⟨_, rfl⟩
  have HSe : Hid _ := hS
  rw [← hS] at HW6 HR6
  clear hS hin hout
  go_loopw [49] (fun i wr => ∃ k : Nat, k ≤ n ∧ i = .int .i64 k ∧ Hid (Writes W b (S ++ (ts.take k).flatten) wr) ∧ Hid (Keeps b W0 wr)) (fun i _ => n - (intOf i).toNat)
  case atStart => exact ⟨0, by omega, rfl, by simpa [Hid] using HW6.out, HB6⟩
  case round =>
    obtain ⟨k, hk, rfl, HWr, HBr⟩ := hrel
    by_cases hlt : k < n
    · have hkl : k < eqs.length := by rw [← HN.out]; exact hlt
      have hkt : k < ts.length := by rw [HLen.out]; exact hlt
      obtain ⟨bA, oA, rfl, hbA, hrow⟩ := HL.out (by intro h; rw [h] at hkl; simp at hkl)
      have hcr := old_cells (n := 8) HWr.out.bel hbA (fun j hj => hrow k hkl j hj)
      have HF : Hid ((ts.take (k + 1)).flatten = (ts.take k).flatten ++ ts[k]) := flat_at2 _ _ hkt
      have hx : ts[k] = eqs[k].text := by simp [HTS.out]
      have HR0 : Hid (room S (ts.flatten ++ [116, 101, 108, 10])) := by rw [← HEt.out]; exact HR6.out
      have HRk0 := room_flat HR0.out k hkt
      rw [hx, eqn_text] at HRk0
      obtain ⟨CL0, CX0⟩ := HQ.out eqs[k] (List.getElem_mem hkl)
      unfold PutsLeft at CL0
      unfold PutsExpr at CX0
      rw [hx, eqn_text] at HF
      generalize eqs[k] = x at *
      obtain ⟨L, hL⟩ : ∃ L, L = leftOf x.ns := ⟨_, rfl⟩
      obtain ⟨X, hX⟩ : ∃ X, X = x.e.text := ⟨_, rfl⟩
      rw [← hL] at CL0
      rw [← hX] at CX0
      rw [← hL, ← hX] at HF HRk0
      have HRk : Hid (room (S ++ (ts.take k).flatten) (([32, 32] ++ (L ++ [32, 61, 32])) ++ (X ++ [59, 10]))) := HRk0
      have HCL : Hid (∀ w, Below W.heap.size W w → Calls Tryd.prog 24 #[.slice x.na x.ns.length x.nc] w fun e w' => e = .returned (.string ⟨L.toArray⟩) ∧ Below w.heap.size w w') := CL0
      clear hL hX HRk0 hx CL0
      obtain ⟨nax, ncx, nsx, plx, ⟨kx, px, nx, ix, dx, ax, cx, qx⟩⟩ := x
      obtain ⟨lx, hlx⟩ : ∃ lx, lx = qx.length := ⟨_, rfl⟩
      obtain ⟨ln, hln⟩ : ∃ ln, ln = nsx.length := ⟨_, rfl⟩
      simp only [Eqn.cells, Ex.val, Ex.cells, List.toArray, pv, ← hlx, ← hln] at CX0 hcr HCL
      have c0 : wr.cell? ⟨bA, oA + k * 8, none⟩ = some (.slice nax ln ncx) := hcr 0 (by omega)
      have c1 : wr.cell? ⟨bA, oA + k * 8 + 1, none⟩ = some (.int .i64 plx) := hcr 1 (by omega)
      have c2 : wr.cell? ⟨bA, oA + k * 8 + 2, none⟩ = some (.int .u8 kx) := hcr 2 (by omega)
      have c3 : wr.cell? ⟨bA, oA + k * 8 + 3, none⟩ = some (.int .i64 px) := hcr 3 (by omega)
      have c4 : wr.cell? ⟨bA, oA + k * 8 + 4, none⟩ = some (.string nx) := hcr 4 (by omega)
      have c5 : wr.cell? ⟨bA, oA + k * 8 + 5, none⟩ = some (.int .i64 ix) := hcr 5 (by omega)
      have c6 : wr.cell? ⟨bA, oA + k * 8 + 6, none⟩ = some (.int .i64 dx) := hcr 6 (by omega)
      have c7 : wr.cell? ⟨bA, oA + k * 8 + 7, none⟩ = some (.slice ax lx cx) := hcr 7 (by omega)
      have hbl : bA < wr.heap.size := World.block_lt_of_cell? wr ⟨bA, oA + k * 8, none⟩ c0
      obtain ⟨W1, hW1⟩ : ∃ W1 : World, W1 = wr.alloc (.cells #[.slice nax ln ncx, .int .i64 plx, .int .u8 kx, .int .i64 px, .string nx, .int .i64 ix, .int .i64 dx, .slice ax lx cx] 43) := ⟨_, rfl⟩
      have HS1 : Hid (W1.heap.size = wr.heap.size + 1) := by rw [Hid, hW1]; simp
      have HBy : Hid (W1.heap[wr.heap.size]? = some (.cells #[.slice nax ln ncx, .int .i64 plx, .int .u8 kx, .int .i64 px, .string nx, .int .i64 ix, .int .i64 dx, .slice ax lx cx] 43 (0, 0))) := by rw [Hid, hW1]; exact heap_at rfl
      have HWa : Hid (Writes W b (S ++ (ts.take k).flatten) W1) := by rw [Hid, hW1]; exact HWr.out.alloc _
      have HBa : Hid (Keeps b W0 W1) := by rw [Hid, hW1]; exact HBr.out.alloc _
      have HNy : Hid (wr.heap.size ≠ b) := by have := HWr.out.lt; rw [Hid]; omega
      have CL := HCL.out W1 HWa.out.bel
      have HE1 : Hid _ := hW1
      clear hW1 hrow hcr hlx hln hkl hkt HCL
      go_wp2_with fail
      rw [← HE1.out]
      refine CL.mono ?_
      rintro x v1 ⟨rfl, hv1⟩
      have HV1 : Hid (Writes W b (S ++ (ts.take k).flatten) v1) := HWa.out.below hv1
      have HK1 : Hid (Keeps b W1 v1) := (Keeps.refl _ _).below hv1
      clear CL hv1 c0 c1 c2 c3 c4 c5 c6 c7 hbl
      go_wp2_with fail
      refine (put_new [⟨#[32, 32]⟩, ⟨L.toArray⟩, ⟨#[32, 61, 32]⟩] _ _ (t := [32, 32] ++ (L ++ [32, 61, 32])) (by simp [flat]) (by rfl) HV1.out (by simp) (room_app HRk.out).1).mono ?_
      rintro x v2 ⟨rfl, hw2, hk2⟩
      have HV2 : Hid (Writes W b ((S ++ (ts.take k).flatten) ++ ([32, 32] ++ (L ++ [32, 61, 32]))) v2) := hw2
      have HK2 : Hid (Keeps b W1 v2) := HK1.out.trans hk2
      have bx := HK2.out.block HBy.out HNy.out (by decide)
      have d2 : v2.cell? ⟨wr.heap.size, 2, none⟩ = some (.int .u8 kx) := by rw [cell_of_row bx]; rfl
      have d3 : v2.cell? ⟨wr.heap.size, 2 + 1, none⟩ = some (.int .i64 px) := by rw [cell_of_row bx]; rfl
      have d4 : v2.cell? ⟨wr.heap.size, 2 + 2, none⟩ = some (.string nx) := by rw [cell_of_row bx]; rfl
      have d5 : v2.cell? ⟨wr.heap.size, 2 + 3, none⟩ = some (.int .i64 ix) := by rw [cell_of_row bx]; rfl
      have d6 : v2.cell? ⟨wr.heap.size, 2 + 4, none⟩ = some (.int .i64 dx) := by rw [cell_of_row bx]; rfl
      have d7 : v2.cell? ⟨wr.heap.size, 2 + 5, none⟩ = some (.slice ax lx cx) := by rw [cell_of_row bx]; rfl
      clear hw2 hk2 bx
      go_wp2_with fail
      refine (CX0 _ _ HV2.out (room_app (room_app HRk.out).2).1).mono ?_
      rintro x v3 ⟨rfl, hw3, hk3⟩
      have HV3 : Hid (Writes W b (((S ++ (ts.take k).flatten) ++ ([32, 32] ++ (L ++ [32, 61, 32]))) ++ X) v3) := hw3
      have HK3 : Hid (Keeps b W1 v3) := HK2.out.trans hk3
      clear hw3 hk3 d2 d3 d4 d5 d6 d7 CX0
      go_wp2_with fail
      refine (put_new [⟨#[59, 10]⟩] _ _ (t := [59, 10]) rfl (by rfl) HV3.out (by simp) (room_app (room_app HRk.out).2).2).mono ?_
      rintro x v4 ⟨rfl, hw4, hk4⟩
      have HV4 : Hid (Writes W b (S ++ (ts.take (k + 1)).flatten) v4) := by rw [Hid, HF.out]; simpa using hw4
      have HK4 : Hid (Keeps b W0 v4) := HBa.out.trans (HK3.out.trans hk4)
      clear hw4 hk4
      go_wp2_with fail
      go_roundw
      case rel => exact ⟨k + 1, by omega, by go_num, HV4, HK4⟩
      case measure => simp [intOf]; omega
    · obtain rfl : k = n := by omega
      have HWE : Hid (Writes W b (S ++ E) wr) := by have := HWr.out; rw [← HLen.out, List.take_length, ← HEt.out] at this; exact this
      have HRE : Hid (room (S ++ E) [116, 101, 108, 10]) := (room_app HR6.out).2
      go_wp2_with fail
      refine (put_new [⟨#[116, 101, 108, 10]⟩] _ _ (t := [116, 101, 108, 10]) rfl (by rfl) HWE.out (by simp) HRE.out).mono ?_
      rintro x v5 ⟨rfl, hw5, hk5⟩
      have HV5 : Hid (Writes W b ((S ++ E) ++ [116, 101, 108, 10]) v5) := hw5
      have HK5 : Hid (Keeps b W0 v5) := HBr.out.trans hk5
      clear hw5 hk5
      go_wp2_with fail
      go_end0
      exact ⟨rfl, by rw [HT.out]; have := HV5.out; rw [HSe.out] at this; simpa using this, HK0.out.trans HK5.out⟩
set_option maxRecDepth 100000 in
set_option maxHeartbeats 6400000 in
theorem putNode_01 {W : World} {b : Nat} {nm : ByteArray} {pl : Int} {ia oa va qa : Option Addr} {ic oc vc qc : Nat} {ins outs vars : List Pm} {eqs : List Eqn} (hin : PutsPms W b ia ic ins) (hout : PutsPms W b oa oc outs) (hvar : PutsPms W b va vc vars) (hv0 : vars ≠ []) (hvn : vars.length ≤ 1048576) (hrow : rowIn Eqn.cells 8 W qa eqs) (hn : eqs.length ≤ 1048576) (hq : ∀ q ∈ eqs, PutsLeft W q ∧ PutsExpr W b q.e) (s : List UInt8) (w : World) (hw : Writes W b s w) (hr : room s (Nd.text ⟨false, nm, pl, ia, ic, ins, oa, oc, outs, va, vc, vars, qa, qc, eqs⟩)) :
    Calls Tryd.prog 12 #[pv b, Nd.val ⟨false, nm, pl, ia, ic, ins, oa, oc, outs, va, vc, vars, qa, qc, eqs⟩] w fun r w' => r = .returned (.tuple #[]) ∧ Writes W b (s ++ Nd.text ⟨false, nm, pl, ia, ic, ins, oa, oc, outs, va, vc, vars, qa, qc, eqs⟩) w' ∧ Keeps b w w' := by
  obtain ⟨ts, hts⟩ : ∃ ts, ts = eqs.map Eqn.text := ⟨_, rfl⟩
  have HTS : Hid _ := hts
  obtain ⟨I, hI⟩ : ∃ I, I = pmsText ins := ⟨_, rfl⟩
  obtain ⟨O, hO⟩ : ∃ O, O = pmsText outs := ⟨_, rfl⟩
  obtain ⟨E, hE⟩ : ∃ E, E = eqsText eqs := ⟨_, rfl⟩
  obtain ⟨V, hV⟩ : ∃ V, V = pmsText vars := ⟨_, rfl⟩
  have HT : Hid (Nd.text ⟨false, nm, pl, ia, ic, ins, oa, oc, outs, va, vc, vars, qa, qc, eqs⟩ = ([110, 111, 100, 101, 32] ++ (nm.data.toList ++ [40])) ++ (I ++ ([41, 32, 114, 101, 116, 117, 114, 110, 115, 32, 40] ++ (O ++ ([41, 10] ++ ([118, 97, 114, 32] ++ (V ++ ([59, 10] ++ ([108, 101, 116, 10] ++ (E ++ ([116, 101, 108, 10]))))))))))) := by
    rw [Hid, hI, hO, hE, hV, Nd.text, if_neg hv0]
    simp only [List.append_assoc]
    rfl
  have HEt : Hid (E = ts.flatten) := by rw [Hid, hE, hts]; rfl
  have HR : Hid (room s (([110, 111, 100, 101, 32] ++ (nm.data.toList ++ [40])) ++ (I ++ ([41, 32, 114, 101, 116, 117, 114, 110, 115, 32, 40] ++ (O ++ ([41, 10] ++ ([118, 97, 114, 32] ++ (V ++ ([59, 10] ++ ([108, 101, 116, 10] ++ (E ++ ([116, 101, 108, 10])))))))))))) := by rw [Hid, ← HT.out]; exact hr
  generalize Nd.text ⟨false, nm, pl, ia, ic, ins, oa, oc, outs, va, vc, vars, qa, qc, eqs⟩ = pt at *
  unfold PutsPms at hin hout hvar
  rw [← hI] at hin
  rw [← hO] at hout
  rw [← hV] at hvar
  obtain ⟨n, hn2⟩ : ∃ n, n = eqs.length := ⟨_, rfl⟩
  obtain ⟨n1, hn3⟩ : ∃ n, n = ins.length := ⟨_, rfl⟩
  obtain ⟨n2, hn4⟩ : ∃ n, n = outs.length := ⟨_, rfl⟩
  obtain ⟨n3, hn5⟩ : ∃ n, n = vars.length := ⟨_, rfl⟩
  have hpos : 0 < n3 := by rw [hn5]; exact List.length_pos_iff.2 hv0
  have hn3b : n3 ≤ 1048576 := by rw [hn5]; exact hvn
  have HN : Hid (n = eqs.length) := hn2
  have HLen : Hid (ts.length = n) := by rw [Hid, hts, List.length_map, hn2]
  have HQ : Hid _ := hq
  have HL : Hid _ := hrow
  simp only [Nd.val, Nd.cells, List.toArray, pv, ← hn2, ← hn3, ← hn4, ← hn5] at hin hout hn hvar ⊢
  obtain ⟨W0, hW0⟩ : ∃ W0 : World, W0 = w.alloc (.cells #[.bool false, .string nm, .int .i64 pl, .slice ia n1 ic, .slice oa n2 oc, .slice va n3 vc, .slice qa n qc] 37) := ⟨_, rfl⟩
  have HS0 : Hid (W0.heap.size = w.heap.size + 1) := by rw [Hid, hW0]; simp
  have HBx : Hid (W0.heap[w.heap.size]? = some (.cells #[.bool false, .string nm, .int .i64 pl, .slice ia n1 ic, .slice oa n2 oc, .slice va n3 vc, .slice qa n qc] 37 (0, 0))) := by rw [Hid, hW0]; exact heap_at rfl
  have HW0 : Hid (Writes W b s W0) := by rw [Hid, hW0]; exact hw.alloc _
  have HK0 : Hid (Keeps b w W0) := by rw [Hid, hW0]; exact (Keeps.refl _ _).alloc _
  have HB0 : Hid (Keeps b W0 W0) := Keeps.refl _ _
  have HLT : Hid (b < w.heap.size) := hw.lt
  have HNe : Hid (w.heap.size ≠ b) := by have := HLT.out; rw [Hid]; omega
  have HE0 : Hid _ := hW0
  clear hW0 hw hts hn2 hn3 hn4 hI hO hE hr hrow hq hV hv0 hvn hn5
  go_enter Tryd.func12, Tryd.ntmps12
  go_wp2_with fail
  rw [← HE0.out]
  refine (put_new [⟨#[110, 111, 100, 101, 32]⟩, nm, ⟨#[40]⟩] _ _ (t := ([110, 111, 100, 101, 32] ++ (nm.data.toList ++ [40]))) (by first | rfl | simp [flat]) (by have := HS0.out; omega) HW0.out (by simp) (room_app HR.out).1).mono ?_
  rintro x w1 ⟨rfl, hw1, hk1⟩
  have HW1 : Hid (Writes W b (s ++ ([110, 111, 100, 101, 32] ++ (nm.data.toList ++ [40]))) w1) := hw1
  have HB1 : Hid (Keeps b W0 w1) := HB0.out.trans (hk1)
  clear hw1 hk1
  have HR1 : Hid (room (s ++ ([110, 111, 100, 101, 32] ++ (nm.data.toList ++ [40]))) (I ++ ([41, 32, 114, 101, 116, 117, 114, 110, 115, 32, 40] ++ (O ++ ([41, 10] ++ ([118, 97, 114, 32] ++ (V ++ ([59, 10] ++ ([108, 101, 116, 10] ++ (E ++ ([116, 101, 108, 10]))))))))))) := (room_app HR.out).2
  have bx := HB1.out.block HBx.out HNe.out (by decide)
  have c3 : w1.cell? ⟨w.heap.size, 3, none⟩ = some (.slice ia n1 ic) := by rw [cell_of_row bx]; rfl
  clear bx
  go_wp2_with fail
  clear c3
  refine (hin _ _ HW1.out (room_app HR1.out).1).mono ?_
  rintro x w2 ⟨rfl, hw2, hk2⟩
  have HW2 : Hid (Writes W b ((s ++ ([110, 111, 100, 101, 32] ++ (nm.data.toList ++ [40]))) ++ I) w2) := hw2
  have HB2 : Hid (Keeps b W0 w2) := HB1.out.trans (hk2)
  clear hw2 hk2
  have HR2 : Hid (room ((s ++ ([110, 111, 100, 101, 32] ++ (nm.data.toList ++ [40]))) ++ I) ([41, 32, 114, 101, 116, 117, 114, 110, 115, 32, 40] ++ (O ++ ([41, 10] ++ ([118, 97, 114, 32] ++ (V ++ ([59, 10] ++ ([108, 101, 116, 10] ++ (E ++ ([116, 101, 108, 10])))))))))) := (room_app HR1.out).2
  go_wp2_with fail
  refine (put_new [⟨#[41, 32, 114, 101, 116, 117, 114, 110, 115, 32, 40]⟩] _ _ (t := [41, 32, 114, 101, 116, 117, 114, 110, 115, 32, 40]) (by first | rfl | simp [flat]) (by rfl) HW2.out (by simp) (room_app HR2.out).1).mono ?_
  rintro x w3 ⟨rfl, hw3, hk3⟩
  have HW3 : Hid (Writes W b (((s ++ ([110, 111, 100, 101, 32] ++ (nm.data.toList ++ [40]))) ++ I) ++ [41, 32, 114, 101, 116, 117, 114, 110, 115, 32, 40]) w3) := hw3
  have HB3 : Hid (Keeps b W0 w3) := HB2.out.trans (hk3)
  clear hw3 hk3
  have HR3 : Hid (room (((s ++ ([110, 111, 100, 101, 32] ++ (nm.data.toList ++ [40]))) ++ I) ++ [41, 32, 114, 101, 116, 117, 114, 110, 115, 32, 40]) (O ++ ([41, 10] ++ ([118, 97, 114, 32] ++ (V ++ ([59, 10] ++ ([108, 101, 116, 10] ++ (E ++ ([116, 101, 108, 10]))))))))) := (room_app HR2.out).2
  have bx := HB3.out.block HBx.out HNe.out (by decide)
  have c4 : w3.cell? ⟨w.heap.size, 4, none⟩ = some (.slice oa n2 oc) := by rw [cell_of_row bx]; rfl
  clear bx
  go_wp2_with fail
  clear c4
  refine (hout _ _ HW3.out (room_app HR3.out).1).mono ?_
  rintro x w4 ⟨rfl, hw4, hk4⟩
  have HW4 : Hid (Writes W b ((((s ++ ([110, 111, 100, 101, 32] ++ (nm.data.toList ++ [40]))) ++ I) ++ [41, 32, 114, 101, 116, 117, 114, 110, 115, 32, 40]) ++ O) w4) := hw4
  have HB4 : Hid (Keeps b W0 w4) := HB3.out.trans (hk4)
  clear hw4 hk4
  have HR4 : Hid (room ((((s ++ ([110, 111, 100, 101, 32] ++ (nm.data.toList ++ [40]))) ++ I) ++ [41, 32, 114, 101, 116, 117, 114, 110, 115, 32, 40]) ++ O) ([41, 10] ++ ([118, 97, 114, 32] ++ (V ++ ([59, 10] ++ ([108, 101, 116, 10] ++ (E ++ ([116, 101, 108, 10])))))))) := (room_app HR3.out).2
  go_wp2_with fail
  refine (put_new [⟨#[41, 10]⟩] _ _ (t := [41, 10]) (by first | rfl | simp [flat]) (by rfl) HW4.out (by simp) (room_app HR4.out).1).mono ?_
  rintro x w5 ⟨rfl, hw5, hk5⟩
  have HW5 : Hid (Writes W b (((((s ++ ([110, 111, 100, 101, 32] ++ (nm.data.toList ++ [40]))) ++ I) ++ [41, 32, 114, 101, 116, 117, 114, 110, 115, 32, 40]) ++ O) ++ [41, 10]) w5) := hw5
  have HB5 : Hid (Keeps b W0 w5) := HB4.out.trans (hk5)
  clear hw5 hk5
  have HR5 : Hid (room (((((s ++ ([110, 111, 100, 101, 32] ++ (nm.data.toList ++ [40]))) ++ I) ++ [41, 32, 114, 101, 116, 117, 114, 110, 115, 32, 40]) ++ O) ++ [41, 10]) ([118, 97, 114, 32] ++ (V ++ ([59, 10] ++ ([108, 101, 116, 10] ++ (E ++ ([116, 101, 108, 10]))))))) := (room_app HR4.out).2
  have bx := HB5.out.block HBx.out HNe.out (by decide)
  have c5 : w5.cell? ⟨w.heap.size, 5, none⟩ = some (.slice va n3 vc) := by rw [cell_of_row bx]; rfl
  clear bx
  go_wp2_with fail
  clear c5
  refine (put_new [⟨#[118, 97, 114, 32]⟩] _ _ (t := [118, 97, 114, 32]) (by first | rfl | simp [flat]) (by rfl) HW5.out (by simp) (room_app HR5.out).1).mono ?_
  rintro x w6 ⟨rfl, hw6, hk6⟩
  have HW6 : Hid (Writes W b ((((((s ++ ([110, 111, 100, 101, 32] ++ (nm.data.toList ++ [40]))) ++ I) ++ [41, 32, 114, 101, 116, 117, 114, 110, 115, 32, 40]) ++ O) ++ [41, 10]) ++ [118, 97, 114, 32]) w6) := hw6
  have HB6 : Hid (Keeps b W0 w6) := HB5.out.trans (hk6)
  clear hw6 hk6
  have HR6 : Hid (room ((((((s ++ ([110, 111, 100, 101, 32] ++ (nm.data.toList ++ [40]))) ++ I) ++ [41, 32, 114, 101, 116, 117, 114, 110, 115, 32, 40]) ++ O) ++ [41, 10]) ++ [118, 97, 114, 32]) (V ++ ([59, 10] ++ ([108, 101, 116, 10] ++ (E ++ ([116, 101, 108, 10])))))) := (room_app HR5.out).2
  have bx := HB6.out.block HBx.out HNe.out (by decide)
  have c5 : w6.cell? ⟨w.heap.size, 5, none⟩ = some (.slice va n3 vc) := by rw [cell_of_row bx]; rfl
  clear bx
  go_wp2_with fail
  clear c5
  refine (hvar _ _ HW6.out (room_app HR6.out).1).mono ?_
  rintro x w7 ⟨rfl, hw7, hk7⟩
  have HW7 : Hid (Writes W b (((((((s ++ ([110, 111, 100, 101, 32] ++ (nm.data.toList ++ [40]))) ++ I) ++ [41, 32, 114, 101, 116, 117, 114, 110, 115, 32, 40]) ++ O) ++ [41, 10]) ++ [118, 97, 114, 32]) ++ V) w7) := hw7
  have HB7 : Hid (Keeps b W0 w7) := HB6.out.trans (hk7)
  clear hw7 hk7
  have HR7 : Hid (room (((((((s ++ ([110, 111, 100, 101, 32] ++ (nm.data.toList ++ [40]))) ++ I) ++ [41, 32, 114, 101, 116, 117, 114, 110, 115, 32, 40]) ++ O) ++ [41, 10]) ++ [118, 97, 114, 32]) ++ V) ([59, 10] ++ ([108, 101, 116, 10] ++ (E ++ ([116, 101, 108, 10]))))) := (room_app HR6.out).2
  go_wp2_with fail
  refine (put_new [⟨#[59, 10]⟩] _ _ (t := [59, 10]) (by first | rfl | simp [flat]) (by rfl) HW7.out (by simp) (room_app HR7.out).1).mono ?_
  rintro x w8 ⟨rfl, hw8, hk8⟩
  have HW8 : Hid (Writes W b ((((((((s ++ ([110, 111, 100, 101, 32] ++ (nm.data.toList ++ [40]))) ++ I) ++ [41, 32, 114, 101, 116, 117, 114, 110, 115, 32, 40]) ++ O) ++ [41, 10]) ++ [118, 97, 114, 32]) ++ V) ++ [59, 10]) w8) := hw8
  have HB8 : Hid (Keeps b W0 w8) := HB7.out.trans (hk8)
  clear hw8 hk8
  have HR8 : Hid (room ((((((((s ++ ([110, 111, 100, 101, 32] ++ (nm.data.toList ++ [40]))) ++ I) ++ [41, 32, 114, 101, 116, 117, 114, 110, 115, 32, 40]) ++ O) ++ [41, 10]) ++ [118, 97, 114, 32]) ++ V) ++ [59, 10]) ([108, 101, 116, 10] ++ (E ++ ([116, 101, 108, 10])))) := (room_app HR7.out).2
  go_wp2_with fail
  refine (put_new [⟨#[108, 101, 116, 10]⟩] _ _ (t := [108, 101, 116, 10]) (by first | rfl | simp [flat]) (by rfl) HW8.out (by simp) (room_app HR8.out).1).mono ?_
  rintro x w9 ⟨rfl, hw9, hk9⟩
  have HW9 : Hid (Writes W b (((((((((s ++ ([110, 111, 100, 101, 32] ++ (nm.data.toList ++ [40]))) ++ I) ++ [41, 32, 114, 101, 116, 117, 114, 110, 115, 32, 40]) ++ O) ++ [41, 10]) ++ [118, 97, 114, 32]) ++ V) ++ [59, 10]) ++ [108, 101, 116, 10]) w9) := hw9
  have HB9 : Hid (Keeps b W0 w9) := HB8.out.trans (hk9)
  clear hw9 hk9
  have HR9 : Hid (room (((((((((s ++ ([110, 111, 100, 101, 32] ++ (nm.data.toList ++ [40]))) ++ I) ++ [41, 32, 114, 101, 116, 117, 114, 110, 115, 32, 40]) ++ O) ++ [41, 10]) ++ [118, 97, 114, 32]) ++ V) ++ [59, 10]) ++ [108, 101, 116, 10]) (E ++ ([116, 101, 108, 10]))) := (room_app HR8.out).2
  have bx := HB9.out.block HBx.out HNe.out (by decide)
  have c6 : w9.cell? ⟨w.heap.size, 6, none⟩ = some (.slice qa n qc) := by rw [cell_of_row bx]; rfl
  clear bx
  go_wp2_with fail
  clear c6
  obtain ⟨S, hS⟩ : ∃ S, S = (((((((((s ++ ([110, 111, 100, 101, 32] ++ (nm.data.toList ++ [40]))) ++ I) ++ [41, 32, 114, 101, 116, 117, 114, 110, 115, 32, 40]) ++ O) ++ [41, 10]) ++ [118, 97, 114, 32]) ++ V) ++ [59, 10]) ++ [108, 101, 116, 10]) := ⟨_, rfl⟩
  have HSe : Hid _ := hS
  rw [← hS] at HW9 HR9
  clear hS hin hout hvar hpos hn3b
  go_loopw [49] (fun i wr => ∃ k : Nat, k ≤ n ∧ i = .int .i64 k ∧ Hid (Writes W b (S ++ (ts.take k).flatten) wr) ∧ Hid (Keeps b W0 wr)) (fun i _ => n - (intOf i).toNat)
  case atStart => exact ⟨0, by omega, rfl, by simpa [Hid] using HW9.out, HB9⟩
  case round =>
    obtain ⟨k, hk, rfl, HWr, HBr⟩ := hrel
    by_cases hlt : k < n
    · have hkl : k < eqs.length := by rw [← HN.out]; exact hlt
      have hkt : k < ts.length := by rw [HLen.out]; exact hlt
      obtain ⟨bA, oA, rfl, hbA, hrow⟩ := HL.out (by intro h; rw [h] at hkl; simp at hkl)
      have hcr := old_cells (n := 8) HWr.out.bel hbA (fun j hj => hrow k hkl j hj)
      have HF : Hid ((ts.take (k + 1)).flatten = (ts.take k).flatten ++ ts[k]) := flat_at2 _ _ hkt
      have hx : ts[k] = eqs[k].text := by simp [HTS.out]
      have HR0 : Hid (room S (ts.flatten ++ [116, 101, 108, 10])) := by rw [← HEt.out]; exact HR9.out
      have HRk0 := room_flat HR0.out k hkt
      rw [hx, eqn_text] at HRk0
      obtain ⟨CL0, CX0⟩ := HQ.out eqs[k] (List.getElem_mem hkl)
      unfold PutsLeft at CL0
      unfold PutsExpr at CX0
      rw [hx, eqn_text] at HF
      generalize eqs[k] = x at *
      obtain ⟨L, hL⟩ : ∃ L, L = leftOf x.ns := ⟨_, rfl⟩
      obtain ⟨X, hX⟩ : ∃ X, X = x.e.text := ⟨_, rfl⟩
      rw [← hL] at CL0
      rw [← hX] at CX0
      rw [← hL, ← hX] at HF HRk0
      have HRk : Hid (room (S ++ (ts.take k).flatten) (([32, 32] ++ (L ++ [32, 61, 32])) ++ (X ++ [59, 10]))) := HRk0
      have HCL : Hid (∀ w, Below W.heap.size W w → Calls Tryd.prog 24 #[.slice x.na x.ns.length x.nc] w fun e w' => e = .returned (.string ⟨L.toArray⟩) ∧ Below w.heap.size w w') := CL0
      clear hL hX HRk0 hx CL0
      obtain ⟨nax, ncx, nsx, plx, ⟨kx, px, nx, ix, dx, ax, cx, qx⟩⟩ := x
      obtain ⟨lx, hlx⟩ : ∃ lx, lx = qx.length := ⟨_, rfl⟩
      obtain ⟨ln, hln⟩ : ∃ ln, ln = nsx.length := ⟨_, rfl⟩
      simp only [Eqn.cells, Ex.val, Ex.cells, List.toArray, pv, ← hlx, ← hln] at CX0 hcr HCL
      have c0 : wr.cell? ⟨bA, oA + k * 8, none⟩ = some (.slice nax ln ncx) := hcr 0 (by omega)
      have c1 : wr.cell? ⟨bA, oA + k * 8 + 1, none⟩ = some (.int .i64 plx) := hcr 1 (by omega)
      have c2 : wr.cell? ⟨bA, oA + k * 8 + 2, none⟩ = some (.int .u8 kx) := hcr 2 (by omega)
      have c3 : wr.cell? ⟨bA, oA + k * 8 + 3, none⟩ = some (.int .i64 px) := hcr 3 (by omega)
      have c4 : wr.cell? ⟨bA, oA + k * 8 + 4, none⟩ = some (.string nx) := hcr 4 (by omega)
      have c5 : wr.cell? ⟨bA, oA + k * 8 + 5, none⟩ = some (.int .i64 ix) := hcr 5 (by omega)
      have c6 : wr.cell? ⟨bA, oA + k * 8 + 6, none⟩ = some (.int .i64 dx) := hcr 6 (by omega)
      have c7 : wr.cell? ⟨bA, oA + k * 8 + 7, none⟩ = some (.slice ax lx cx) := hcr 7 (by omega)
      have hbl : bA < wr.heap.size := World.block_lt_of_cell? wr ⟨bA, oA + k * 8, none⟩ c0
      obtain ⟨W1, hW1⟩ : ∃ W1 : World, W1 = wr.alloc (.cells #[.slice nax ln ncx, .int .i64 plx, .int .u8 kx, .int .i64 px, .string nx, .int .i64 ix, .int .i64 dx, .slice ax lx cx] 43) := ⟨_, rfl⟩
      have HS1 : Hid (W1.heap.size = wr.heap.size + 1) := by rw [Hid, hW1]; simp
      have HBy : Hid (W1.heap[wr.heap.size]? = some (.cells #[.slice nax ln ncx, .int .i64 plx, .int .u8 kx, .int .i64 px, .string nx, .int .i64 ix, .int .i64 dx, .slice ax lx cx] 43 (0, 0))) := by rw [Hid, hW1]; exact heap_at rfl
      have HWa : Hid (Writes W b (S ++ (ts.take k).flatten) W1) := by rw [Hid, hW1]; exact HWr.out.alloc _
      have HBa : Hid (Keeps b W0 W1) := by rw [Hid, hW1]; exact HBr.out.alloc _
      have HNy : Hid (wr.heap.size ≠ b) := by have := HWr.out.lt; rw [Hid]; omega
      have CL := HCL.out W1 HWa.out.bel
      have HE1 : Hid _ := hW1
      clear hW1 hrow hcr hlx hln hkl hkt HCL
      go_wp2_with fail
      rw [← HE1.out]
      refine CL.mono ?_
      rintro x v1 ⟨rfl, hv1⟩
      have HV1 : Hid (Writes W b (S ++ (ts.take k).flatten) v1) := HWa.out.below hv1
      have HK1 : Hid (Keeps b W1 v1) := (Keeps.refl _ _).below hv1
      clear CL hv1 c0 c1 c2 c3 c4 c5 c6 c7 hbl
      go_wp2_with fail
      refine (put_new [⟨#[32, 32]⟩, ⟨L.toArray⟩, ⟨#[32, 61, 32]⟩] _ _ (t := [32, 32] ++ (L ++ [32, 61, 32])) (by simp [flat]) (by rfl) HV1.out (by simp) (room_app HRk.out).1).mono ?_
      rintro x v2 ⟨rfl, hw2, hk2⟩
      have HV2 : Hid (Writes W b ((S ++ (ts.take k).flatten) ++ ([32, 32] ++ (L ++ [32, 61, 32]))) v2) := hw2
      have HK2 : Hid (Keeps b W1 v2) := HK1.out.trans hk2
      have bx := HK2.out.block HBy.out HNy.out (by decide)
      have d2 : v2.cell? ⟨wr.heap.size, 2, none⟩ = some (.int .u8 kx) := by rw [cell_of_row bx]; rfl
      have d3 : v2.cell? ⟨wr.heap.size, 2 + 1, none⟩ = some (.int .i64 px) := by rw [cell_of_row bx]; rfl
      have d4 : v2.cell? ⟨wr.heap.size, 2 + 2, none⟩ = some (.string nx) := by rw [cell_of_row bx]; rfl
      have d5 : v2.cell? ⟨wr.heap.size, 2 + 3, none⟩ = some (.int .i64 ix) := by rw [cell_of_row bx]; rfl
      have d6 : v2.cell? ⟨wr.heap.size, 2 + 4, none⟩ = some (.int .i64 dx) := by rw [cell_of_row bx]; rfl
      have d7 : v2.cell? ⟨wr.heap.size, 2 + 5, none⟩ = some (.slice ax lx cx) := by rw [cell_of_row bx]; rfl
      clear hw2 hk2 bx
      go_wp2_with fail
      refine (CX0 _ _ HV2.out (room_app (room_app HRk.out).2).1).mono ?_
      rintro x v3 ⟨rfl, hw3, hk3⟩
      have HV3 : Hid (Writes W b (((S ++ (ts.take k).flatten) ++ ([32, 32] ++ (L ++ [32, 61, 32]))) ++ X) v3) := hw3
      have HK3 : Hid (Keeps b W1 v3) := HK2.out.trans hk3
      clear hw3 hk3 d2 d3 d4 d5 d6 d7 CX0
      go_wp2_with fail
      refine (put_new [⟨#[59, 10]⟩] _ _ (t := [59, 10]) rfl (by rfl) HV3.out (by simp) (room_app (room_app HRk.out).2).2).mono ?_
      rintro x v4 ⟨rfl, hw4, hk4⟩
      have HV4 : Hid (Writes W b (S ++ (ts.take (k + 1)).flatten) v4) := by rw [Hid, HF.out]; simpa using hw4
      have HK4 : Hid (Keeps b W0 v4) := HBa.out.trans (HK3.out.trans hk4)
      clear hw4 hk4
      go_wp2_with fail
      go_roundw
      case rel => exact ⟨k + 1, by omega, by go_num, HV4, HK4⟩
      case measure => simp [intOf]; omega
    · obtain rfl : k = n := by omega
      have HWE : Hid (Writes W b (S ++ E) wr) := by have := HWr.out; rw [← HLen.out, List.take_length, ← HEt.out] at this; exact this
      have HRE : Hid (room (S ++ E) [116, 101, 108, 10]) := (room_app HR9.out).2
      go_wp2_with fail
      refine (put_new [⟨#[116, 101, 108, 10]⟩] _ _ (t := [116, 101, 108, 10]) rfl (by rfl) HWE.out (by simp) HRE.out).mono ?_
      rintro x v5 ⟨rfl, hw5, hk5⟩
      have HV5 : Hid (Writes W b ((S ++ E) ++ [116, 101, 108, 10]) v5) := hw5
      have HK5 : Hid (Keeps b W0 v5) := HBr.out.trans hk5
      clear hw5 hk5
      go_wp2_with fail
      go_end0
      exact ⟨rfl, by rw [HT.out]; have := HV5.out; rw [HSe.out] at this; simpa using this, HK0.out.trans HK5.out⟩
set_option maxRecDepth 100000 in
set_option maxHeartbeats 6400000 in
theorem putNode_10 {W : World} {b : Nat} {nm : ByteArray} {pl : Int} {ia oa va qa : Option Addr} {ic oc vc qc : Nat} {ins outs : List Pm} {eqs : List Eqn} (hin : PutsPms W b ia ic ins) (hout : PutsPms W b oa oc outs) (hrow : rowIn Eqn.cells 8 W qa eqs) (hn : eqs.length ≤ 1048576) (hq : ∀ q ∈ eqs, PutsLeft W q ∧ PutsExpr W b q.e) (s : List UInt8) (w : World) (hw : Writes W b s w) (hr : room s (Nd.text ⟨true, nm, pl, ia, ic, ins, oa, oc, outs, va, vc, [], qa, qc, eqs⟩)) :
    Calls Tryd.prog 12 #[pv b, Nd.val ⟨true, nm, pl, ia, ic, ins, oa, oc, outs, va, vc, [], qa, qc, eqs⟩] w fun r w' => r = .returned (.tuple #[]) ∧ Writes W b (s ++ Nd.text ⟨true, nm, pl, ia, ic, ins, oa, oc, outs, va, vc, [], qa, qc, eqs⟩) w' ∧ Keeps b w w' := by
  obtain ⟨ts, hts⟩ : ∃ ts, ts = eqs.map Eqn.text := ⟨_, rfl⟩
  have HTS : Hid _ := hts
  obtain ⟨I, hI⟩ : ∃ I, I = pmsText ins := ⟨_, rfl⟩
  obtain ⟨O, hO⟩ : ∃ O, O = pmsText outs := ⟨_, rfl⟩
  obtain ⟨E, hE⟩ : ∃ E, E = eqsText eqs := ⟨_, rfl⟩
  have HT : Hid (Nd.text ⟨true, nm, pl, ia, ic, ins, oa, oc, outs, va, vc, [], qa, qc, eqs⟩ = ([102, 108, 111, 119, 32] ++ (nm.data.toList ++ [40])) ++ (I ++ ([41, 32, 114, 101, 116, 117, 114, 110, 115, 32, 40] ++ (O ++ ([41, 10] ++ ([108, 101, 116, 10] ++ (E ++ ([116, 101, 108, 10])))))))) := by
    rw [Hid, hI, hO, hE, Nd.text]
    simp only [List.append_assoc, List.nil_append, if_true]
  have HEt : Hid (E = ts.flatten) := by rw [Hid, hE, hts]; rfl
  have HR : Hid (room s (([102, 108, 111, 119, 32] ++ (nm.data.toList ++ [40])) ++ (I ++ ([41, 32, 114, 101, 116, 117, 114, 110, 115, 32, 40] ++ (O ++ ([41, 10] ++ ([108, 101, 116, 10] ++ (E ++ ([116, 101, 108, 10]))))))))) := by rw [Hid, ← HT.out]; exact hr
  generalize Nd.text ⟨true, nm, pl, ia, ic, ins, oa, oc, outs, va, vc, [], qa, qc, eqs⟩ = pt at *
  unfold PutsPms at hin hout
  rw [← hI] at hin
  rw [← hO] at hout
  obtain ⟨n, hn2⟩ : ∃ n, n = eqs.length := ⟨_, rfl⟩
  obtain ⟨n1, hn3⟩ : ∃ n, n = ins.length := ⟨_, rfl⟩
  obtain ⟨n2, hn4⟩ : ∃ n, n = outs.length := ⟨_, rfl⟩
  have HN : Hid (n = eqs.length) := hn2
  have HLen : Hid (ts.length = n) := by rw [Hid, hts, List.length_map, hn2]
  have HQ : Hid _ := hq
  have HL : Hid _ := hrow
  simp only [Nd.val, Nd.cells, List.toArray, pv, List.length_nil, ← hn2, ← hn3, ← hn4] at hin hout hn ⊢
  obtain ⟨W0, hW0⟩ : ∃ W0 : World, W0 = w.alloc (.cells #[.bool true, .string nm, .int .i64 pl, .slice ia n1 ic, .slice oa n2 oc, .slice va 0 vc, .slice qa n qc] 37) := ⟨_, rfl⟩
  have HS0 : Hid (W0.heap.size = w.heap.size + 1) := by rw [Hid, hW0]; simp
  have HBx : Hid (W0.heap[w.heap.size]? = some (.cells #[.bool true, .string nm, .int .i64 pl, .slice ia n1 ic, .slice oa n2 oc, .slice va 0 vc, .slice qa n qc] 37 (0, 0))) := by rw [Hid, hW0]; exact heap_at rfl
  have HW0 : Hid (Writes W b s W0) := by rw [Hid, hW0]; exact hw.alloc _
  have HK0 : Hid (Keeps b w W0) := by rw [Hid, hW0]; exact (Keeps.refl _ _).alloc _
  have HB0 : Hid (Keeps b W0 W0) := Keeps.refl _ _
  have HLT : Hid (b < w.heap.size) := hw.lt
  have HNe : Hid (w.heap.size ≠ b) := by have := HLT.out; rw [Hid]; omega
  have HE0 : Hid _ := hW0
  clear hW0 hw hts hn2 hn3 hn4 hI hO hE hr hrow hq
  go_enter Tryd.func12, Tryd.ntmps12
  go_wp2_with fail
  rw [← HE0.out]
  refine (put_new [⟨#[102, 108, 111, 119, 32]⟩, nm, ⟨#[40]⟩] _ _ (t := ([102, 108, 111, 119, 32] ++ (nm.data.toList ++ [40]))) (by first | rfl | simp [flat]) (by have := HS0.out; omega) HW0.out (by simp) (room_app HR.out).1).mono ?_
  rintro x w1 ⟨rfl, hw1, hk1⟩
  have HW1 : Hid (Writes W b (s ++ ([102, 108, 111, 119, 32] ++ (nm.data.toList ++ [40]))) w1) := hw1
  have HB1 : Hid (Keeps b W0 w1) := HB0.out.trans (hk1)
  clear hw1 hk1
  have HR1 : Hid (room (s ++ ([102, 108, 111, 119, 32] ++ (nm.data.toList ++ [40]))) (I ++ ([41, 32, 114, 101, 116, 117, 114, 110, 115, 32, 40] ++ (O ++ ([41, 10] ++ ([108, 101, 116, 10] ++ (E ++ ([116, 101, 108, 10])))))))) := (room_app HR.out).2
  have bx := HB1.out.block HBx.out HNe.out (by decide)
  have c3 : w1.cell? ⟨w.heap.size, 3, none⟩ = some (.slice ia n1 ic) := by rw [cell_of_row bx]; rfl
  clear bx
  go_wp2_with fail
  clear c3
  refine (hin _ _ HW1.out (room_app HR1.out).1).mono ?_
  rintro x w2 ⟨rfl, hw2, hk2⟩
  have HW2 : Hid (Writes W b ((s ++ ([102, 108, 111, 119, 32] ++ (nm.data.toList ++ [40]))) ++ I) w2) := hw2
  have HB2 : Hid (Keeps b W0 w2) := HB1.out.trans (hk2)
  clear hw2 hk2
  have HR2 : Hid (room ((s ++ ([102, 108, 111, 119, 32] ++ (nm.data.toList ++ [40]))) ++ I) ([41, 32, 114, 101, 116, 117, 114, 110, 115, 32, 40] ++ (O ++ ([41, 10] ++ ([108, 101, 116, 10] ++ (E ++ ([116, 101, 108, 10]))))))) := (room_app HR1.out).2
  go_wp2_with fail
  refine (put_new [⟨#[41, 32, 114, 101, 116, 117, 114, 110, 115, 32, 40]⟩] _ _ (t := [41, 32, 114, 101, 116, 117, 114, 110, 115, 32, 40]) (by first | rfl | simp [flat]) (by rfl) HW2.out (by simp) (room_app HR2.out).1).mono ?_
  rintro x w3 ⟨rfl, hw3, hk3⟩
  have HW3 : Hid (Writes W b (((s ++ ([102, 108, 111, 119, 32] ++ (nm.data.toList ++ [40]))) ++ I) ++ [41, 32, 114, 101, 116, 117, 114, 110, 115, 32, 40]) w3) := hw3
  have HB3 : Hid (Keeps b W0 w3) := HB2.out.trans (hk3)
  clear hw3 hk3
  have HR3 : Hid (room (((s ++ ([102, 108, 111, 119, 32] ++ (nm.data.toList ++ [40]))) ++ I) ++ [41, 32, 114, 101, 116, 117, 114, 110, 115, 32, 40]) (O ++ ([41, 10] ++ ([108, 101, 116, 10] ++ (E ++ ([116, 101, 108, 10])))))) := (room_app HR2.out).2
  have bx := HB3.out.block HBx.out HNe.out (by decide)
  have c4 : w3.cell? ⟨w.heap.size, 4, none⟩ = some (.slice oa n2 oc) := by rw [cell_of_row bx]; rfl
  clear bx
  go_wp2_with fail
  clear c4
  refine (hout _ _ HW3.out (room_app HR3.out).1).mono ?_
  rintro x w4 ⟨rfl, hw4, hk4⟩
  have HW4 : Hid (Writes W b ((((s ++ ([102, 108, 111, 119, 32] ++ (nm.data.toList ++ [40]))) ++ I) ++ [41, 32, 114, 101, 116, 117, 114, 110, 115, 32, 40]) ++ O) w4) := hw4
  have HB4 : Hid (Keeps b W0 w4) := HB3.out.trans (hk4)
  clear hw4 hk4
  have HR4 : Hid (room ((((s ++ ([102, 108, 111, 119, 32] ++ (nm.data.toList ++ [40]))) ++ I) ++ [41, 32, 114, 101, 116, 117, 114, 110, 115, 32, 40]) ++ O) ([41, 10] ++ ([108, 101, 116, 10] ++ (E ++ ([116, 101, 108, 10]))))) := (room_app HR3.out).2
  go_wp2_with fail
  refine (put_new [⟨#[41, 10]⟩] _ _ (t := [41, 10]) (by first | rfl | simp [flat]) (by rfl) HW4.out (by simp) (room_app HR4.out).1).mono ?_
  rintro x w5 ⟨rfl, hw5, hk5⟩
  have HW5 : Hid (Writes W b (((((s ++ ([102, 108, 111, 119, 32] ++ (nm.data.toList ++ [40]))) ++ I) ++ [41, 32, 114, 101, 116, 117, 114, 110, 115, 32, 40]) ++ O) ++ [41, 10]) w5) := hw5
  have HB5 : Hid (Keeps b W0 w5) := HB4.out.trans (hk5)
  clear hw5 hk5
  have HR5 : Hid (room (((((s ++ ([102, 108, 111, 119, 32] ++ (nm.data.toList ++ [40]))) ++ I) ++ [41, 32, 114, 101, 116, 117, 114, 110, 115, 32, 40]) ++ O) ++ [41, 10]) ([108, 101, 116, 10] ++ (E ++ ([116, 101, 108, 10])))) := (room_app HR4.out).2
  have bx := HB5.out.block HBx.out HNe.out (by decide)
  have c5 : w5.cell? ⟨w.heap.size, 5, none⟩ = some (.slice va 0 vc) := by rw [cell_of_row bx]; rfl
  clear bx
  go_wp2_with fail
  clear c5
  refine (put_new [⟨#[108, 101, 116, 10]⟩] _ _ (t := [108, 101, 116, 10]) (by first | rfl | simp [flat]) (by rfl) HW5.out (by simp) (room_app HR5.out).1).mono ?_
  rintro x w6 ⟨rfl, hw6, hk6⟩
  have HW6 : Hid (Writes W b ((((((s ++ ([102, 108, 111, 119, 32] ++ (nm.data.toList ++ [40]))) ++ I) ++ [41, 32, 114, 101, 116, 117, 114, 110, 115, 32, 40]) ++ O) ++ [41, 10]) ++ [108, 101, 116, 10]) w6) := hw6
  have HB6 : Hid (Keeps b W0 w6) := HB5.out.trans (hk6)
  clear hw6 hk6
  have HR6 : Hid (room ((((((s ++ ([102, 108, 111, 119, 32] ++ (nm.data.toList ++ [40]))) ++ I) ++ [41, 32, 114, 101, 116, 117, 114, 110, 115, 32, 40]) ++ O) ++ [41, 10]) ++ [108, 101, 116, 10]) (E ++ ([116, 101, 108, 10]))) := (room_app HR5.out).2
  have bx := HB6.out.block HBx.out HNe.out (by decide)
  have c6 : w6.cell? ⟨w.heap.size, 6, none⟩ = some (.slice qa n qc) := by rw [cell_of_row bx]; rfl
  clear bx
  go_wp2_with fail
  clear c6
  obtain ⟨S, hS⟩ : ∃ S, S = ((((((s ++ ([102, 108, 111, 119, 32] ++ (nm.data.toList ++ [40]))) ++ I) ++ [41, 32, 114, 101, 116, 117, 114, 110, 115, 32, 40]) ++ O) ++ [41, 10]) ++ [108, 101, 116, 10]) := ⟨_, rfl⟩
  have HSe : Hid _ := hS
  rw [← hS] at HW6 HR6
  clear hS hin hout
  go_loopw [49] (fun i wr => ∃ k : Nat, k ≤ n ∧ i = .int .i64 k ∧ Hid (Writes W b (S ++ (ts.take k).flatten) wr) ∧ Hid (Keeps b W0 wr)) (fun i _ => n - (intOf i).toNat)
  case atStart => exact ⟨0, by omega, rfl, by simpa [Hid] using HW6.out, HB6⟩
  case round =>
    obtain ⟨k, hk, rfl, HWr, HBr⟩ := hrel
    by_cases hlt : k < n
    · have hkl : k < eqs.length := by rw [← HN.out]; exact hlt
      have hkt : k < ts.length := by rw [HLen.out]; exact hlt
      obtain ⟨bA, oA, rfl, hbA, hrow⟩ := HL.out (by intro h; rw [h] at hkl; simp at hkl)
      have hcr := old_cells (n := 8) HWr.out.bel hbA (fun j hj => hrow k hkl j hj)
      have HF : Hid ((ts.take (k + 1)).flatten = (ts.take k).flatten ++ ts[k]) := flat_at2 _ _ hkt
      have hx : ts[k] = eqs[k].text := by simp [HTS.out]
      have HR0 : Hid (room S (ts.flatten ++ [116, 101, 108, 10])) := by rw [← HEt.out]; exact HR6.out
      have HRk0 := room_flat HR0.out k hkt
      rw [hx, eqn_text] at HRk0
      obtain ⟨CL0, CX0⟩ := HQ.out eqs[k] (List.getElem_mem hkl)
      unfold PutsLeft at CL0
      unfold PutsExpr at CX0
      rw [hx, eqn_text] at HF
      generalize eqs[k] = x at *
      obtain ⟨L, hL⟩ : ∃ L, L = leftOf x.ns := ⟨_, rfl⟩
      obtain ⟨X, hX⟩ : ∃ X, X = x.e.text := ⟨_, rfl⟩
      rw [← hL] at CL0
      rw [← hX] at CX0
      rw [← hL, ← hX] at HF HRk0
      have HRk : Hid (room (S ++ (ts.take k).flatten) (([32, 32] ++ (L ++ [32, 61, 32])) ++ (X ++ [59, 10]))) := HRk0
      have HCL : Hid (∀ w, Below W.heap.size W w → Calls Tryd.prog 24 #[.slice x.na x.ns.length x.nc] w fun e w' => e = .returned (.string ⟨L.toArray⟩) ∧ Below w.heap.size w w') := CL0
      clear hL hX HRk0 hx CL0
      obtain ⟨nax, ncx, nsx, plx, ⟨kx, px, nx, ix, dx, ax, cx, qx⟩⟩ := x
      obtain ⟨lx, hlx⟩ : ∃ lx, lx = qx.length := ⟨_, rfl⟩
      obtain ⟨ln, hln⟩ : ∃ ln, ln = nsx.length := ⟨_, rfl⟩
      simp only [Eqn.cells, Ex.val, Ex.cells, List.toArray, pv, ← hlx, ← hln] at CX0 hcr HCL
      have c0 : wr.cell? ⟨bA, oA + k * 8, none⟩ = some (.slice nax ln ncx) := hcr 0 (by omega)
      have c1 : wr.cell? ⟨bA, oA + k * 8 + 1, none⟩ = some (.int .i64 plx) := hcr 1 (by omega)
      have c2 : wr.cell? ⟨bA, oA + k * 8 + 2, none⟩ = some (.int .u8 kx) := hcr 2 (by omega)
      have c3 : wr.cell? ⟨bA, oA + k * 8 + 3, none⟩ = some (.int .i64 px) := hcr 3 (by omega)
      have c4 : wr.cell? ⟨bA, oA + k * 8 + 4, none⟩ = some (.string nx) := hcr 4 (by omega)
      have c5 : wr.cell? ⟨bA, oA + k * 8 + 5, none⟩ = some (.int .i64 ix) := hcr 5 (by omega)
      have c6 : wr.cell? ⟨bA, oA + k * 8 + 6, none⟩ = some (.int .i64 dx) := hcr 6 (by omega)
      have c7 : wr.cell? ⟨bA, oA + k * 8 + 7, none⟩ = some (.slice ax lx cx) := hcr 7 (by omega)
      have hbl : bA < wr.heap.size := World.block_lt_of_cell? wr ⟨bA, oA + k * 8, none⟩ c0
      obtain ⟨W1, hW1⟩ : ∃ W1 : World, W1 = wr.alloc (.cells #[.slice nax ln ncx, .int .i64 plx, .int .u8 kx, .int .i64 px, .string nx, .int .i64 ix, .int .i64 dx, .slice ax lx cx] 43) := ⟨_, rfl⟩
      have HS1 : Hid (W1.heap.size = wr.heap.size + 1) := by rw [Hid, hW1]; simp
      have HBy : Hid (W1.heap[wr.heap.size]? = some (.cells #[.slice nax ln ncx, .int .i64 plx, .int .u8 kx, .int .i64 px, .string nx, .int .i64 ix, .int .i64 dx, .slice ax lx cx] 43 (0, 0))) := by rw [Hid, hW1]; exact heap_at rfl
      have HWa : Hid (Writes W b (S ++ (ts.take k).flatten) W1) := by rw [Hid, hW1]; exact HWr.out.alloc _
      have HBa : Hid (Keeps b W0 W1) := by rw [Hid, hW1]; exact HBr.out.alloc _
      have HNy : Hid (wr.heap.size ≠ b) := by have := HWr.out.lt; rw [Hid]; omega
      have CL := HCL.out W1 HWa.out.bel
      have HE1 : Hid _ := hW1
      clear hW1 hrow hcr hlx hln hkl hkt HCL
      go_wp2_with fail
      rw [← HE1.out]
      refine CL.mono ?_
      rintro x v1 ⟨rfl, hv1⟩
      have HV1 : Hid (Writes W b (S ++ (ts.take k).flatten) v1) := HWa.out.below hv1
      have HK1 : Hid (Keeps b W1 v1) := (Keeps.refl _ _).below hv1
      clear CL hv1 c0 c1 c2 c3 c4 c5 c6 c7 hbl
      go_wp2_with fail
      refine (put_new [⟨#[32, 32]⟩, ⟨L.toArray⟩, ⟨#[32, 61, 32]⟩] _ _ (t := [32, 32] ++ (L ++ [32, 61, 32])) (by simp [flat]) (by rfl) HV1.out (by simp) (room_app HRk.out).1).mono ?_
      rintro x v2 ⟨rfl, hw2, hk2⟩
      have HV2 : Hid (Writes W b ((S ++ (ts.take k).flatten) ++ ([32, 32] ++ (L ++ [32, 61, 32]))) v2) := hw2
      have HK2 : Hid (Keeps b W1 v2) := HK1.out.trans hk2
      have bx := HK2.out.block HBy.out HNy.out (by decide)
      have d2 : v2.cell? ⟨wr.heap.size, 2, none⟩ = some (.int .u8 kx) := by rw [cell_of_row bx]; rfl
      have d3 : v2.cell? ⟨wr.heap.size, 2 + 1, none⟩ = some (.int .i64 px) := by rw [cell_of_row bx]; rfl
      have d4 : v2.cell? ⟨wr.heap.size, 2 + 2, none⟩ = some (.string nx) := by rw [cell_of_row bx]; rfl
      have d5 : v2.cell? ⟨wr.heap.size, 2 + 3, none⟩ = some (.int .i64 ix) := by rw [cell_of_row bx]; rfl
      have d6 : v2.cell? ⟨wr.heap.size, 2 + 4, none⟩ = some (.int .i64 dx) := by rw [cell_of_row bx]; rfl
      have d7 : v2.cell? ⟨wr.heap.size, 2 + 5, none⟩ = some (.slice ax lx cx) := by rw [cell_of_row bx]; rfl
      clear hw2 hk2 bx
      go_wp2_with fail
      refine (CX0 _ _ HV2.out (room_app (room_app HRk.out).2).1).mono ?_
      rintro x v3 ⟨rfl, hw3, hk3⟩
      have HV3 : Hid (Writes W b (((S ++ (ts.take k).flatten) ++ ([32, 32] ++ (L ++ [32, 61, 32]))) ++ X) v3) := hw3
      have HK3 : Hid (Keeps b W1 v3) := HK2.out.trans hk3
      clear hw3 hk3 d2 d3 d4 d5 d6 d7 CX0
      go_wp2_with fail
      refine (put_new [⟨#[59, 10]⟩] _ _ (t := [59, 10]) rfl (by rfl) HV3.out (by simp) (room_app (room_app HRk.out).2).2).mono ?_
      rintro x v4 ⟨rfl, hw4, hk4⟩
      have HV4 : Hid (Writes W b (S ++ (ts.take (k + 1)).flatten) v4) := by rw [Hid, HF.out]; simpa using hw4
      have HK4 : Hid (Keeps b W0 v4) := HBa.out.trans (HK3.out.trans hk4)
      clear hw4 hk4
      go_wp2_with fail
      go_roundw
      case rel => exact ⟨k + 1, by omega, by go_num, HV4, HK4⟩
      case measure => simp [intOf]; omega
    · obtain rfl : k = n := by omega
      have HWE : Hid (Writes W b (S ++ E) wr) := by have := HWr.out; rw [← HLen.out, List.take_length, ← HEt.out] at this; exact this
      have HRE : Hid (room (S ++ E) [116, 101, 108, 10]) := (room_app HR6.out).2
      go_wp2_with fail
      refine (put_new [⟨#[116, 101, 108, 10]⟩] _ _ (t := [116, 101, 108, 10]) rfl (by rfl) HWE.out (by simp) HRE.out).mono ?_
      rintro x v5 ⟨rfl, hw5, hk5⟩
      have HV5 : Hid (Writes W b ((S ++ E) ++ [116, 101, 108, 10]) v5) := hw5
      have HK5 : Hid (Keeps b W0 v5) := HBr.out.trans hk5
      clear hw5 hk5
      go_wp2_with fail
      go_end0
      exact ⟨rfl, by rw [HT.out]; have := HV5.out; rw [HSe.out] at this; simpa using this, HK0.out.trans HK5.out⟩
set_option maxRecDepth 100000 in
set_option maxHeartbeats 6400000 in
theorem putNode_11 {W : World} {b : Nat} {nm : ByteArray} {pl : Int} {ia oa va qa : Option Addr} {ic oc vc qc : Nat} {ins outs vars : List Pm} {eqs : List Eqn} (hin : PutsPms W b ia ic ins) (hout : PutsPms W b oa oc outs) (hvar : PutsPms W b va vc vars) (hv0 : vars ≠ []) (hvn : vars.length ≤ 1048576) (hrow : rowIn Eqn.cells 8 W qa eqs) (hn : eqs.length ≤ 1048576) (hq : ∀ q ∈ eqs, PutsLeft W q ∧ PutsExpr W b q.e) (s : List UInt8) (w : World) (hw : Writes W b s w) (hr : room s (Nd.text ⟨true, nm, pl, ia, ic, ins, oa, oc, outs, va, vc, vars, qa, qc, eqs⟩)) :
    Calls Tryd.prog 12 #[pv b, Nd.val ⟨true, nm, pl, ia, ic, ins, oa, oc, outs, va, vc, vars, qa, qc, eqs⟩] w fun r w' => r = .returned (.tuple #[]) ∧ Writes W b (s ++ Nd.text ⟨true, nm, pl, ia, ic, ins, oa, oc, outs, va, vc, vars, qa, qc, eqs⟩) w' ∧ Keeps b w w' := by
  obtain ⟨ts, hts⟩ : ∃ ts, ts = eqs.map Eqn.text := ⟨_, rfl⟩
  have HTS : Hid _ := hts
  obtain ⟨I, hI⟩ : ∃ I, I = pmsText ins := ⟨_, rfl⟩
  obtain ⟨O, hO⟩ : ∃ O, O = pmsText outs := ⟨_, rfl⟩
  obtain ⟨E, hE⟩ : ∃ E, E = eqsText eqs := ⟨_, rfl⟩
  obtain ⟨V, hV⟩ : ∃ V, V = pmsText vars := ⟨_, rfl⟩
  have HT : Hid (Nd.text ⟨true, nm, pl, ia, ic, ins, oa, oc, outs, va, vc, vars, qa, qc, eqs⟩ = ([102, 108, 111, 119, 32] ++ (nm.data.toList ++ [40])) ++ (I ++ ([41, 32, 114, 101, 116, 117, 114, 110, 115, 32, 40] ++ (O ++ ([41, 10] ++ ([118, 97, 114, 32] ++ (V ++ ([59, 10] ++ ([108, 101, 116, 10] ++ (E ++ ([116, 101, 108, 10]))))))))))) := by
    rw [Hid, hI, hO, hE, hV, Nd.text, if_neg hv0]
    simp only [List.append_assoc, if_true]
  have HEt : Hid (E = ts.flatten) := by rw [Hid, hE, hts]; rfl
  have HR : Hid (room s (([102, 108, 111, 119, 32] ++ (nm.data.toList ++ [40])) ++ (I ++ ([41, 32, 114, 101, 116, 117, 114, 110, 115, 32, 40] ++ (O ++ ([41, 10] ++ ([118, 97, 114, 32] ++ (V ++ ([59, 10] ++ ([108, 101, 116, 10] ++ (E ++ ([116, 101, 108, 10])))))))))))) := by rw [Hid, ← HT.out]; exact hr
  generalize Nd.text ⟨true, nm, pl, ia, ic, ins, oa, oc, outs, va, vc, vars, qa, qc, eqs⟩ = pt at *
  unfold PutsPms at hin hout hvar
  rw [← hI] at hin
  rw [← hO] at hout
  rw [← hV] at hvar
  obtain ⟨n, hn2⟩ : ∃ n, n = eqs.length := ⟨_, rfl⟩
  obtain ⟨n1, hn3⟩ : ∃ n, n = ins.length := ⟨_, rfl⟩
  obtain ⟨n2, hn4⟩ : ∃ n, n = outs.length := ⟨_, rfl⟩
  obtain ⟨n3, hn5⟩ : ∃ n, n = vars.length := ⟨_, rfl⟩
  have hpos : 0 < n3 := by rw [hn5]; exact List.length_pos_iff.2 hv0
  have hn3b : n3 ≤ 1048576 := by rw [hn5]; exact hvn
  have HN : Hid (n = eqs.length) := hn2
  have HLen : Hid (ts.length = n) := by rw [Hid, hts, List.length_map, hn2]
  have HQ : Hid _ := hq
  have HL : Hid _ := hrow
  simp only [Nd.val, Nd.cells, List.toArray, pv, ← hn2, ← hn3, ← hn4, ← hn5] at hin hout hn hvar ⊢
  obtain ⟨W0, hW0⟩ : ∃ W0 : World, W0 = w.alloc (.cells #[.bool true, .string nm, .int .i64 pl, .slice ia n1 ic, .slice oa n2 oc, .slice va n3 vc, .slice qa n qc] 37) := ⟨_, rfl⟩
  have HS0 : Hid (W0.heap.size = w.heap.size + 1) := by rw [Hid, hW0]; simp
  have HBx : Hid (W0.heap[w.heap.size]? = some (.cells #[.bool true, .string nm, .int .i64 pl, .slice ia n1 ic, .slice oa n2 oc, .slice va n3 vc, .slice qa n qc] 37 (0, 0))) := by rw [Hid, hW0]; exact heap_at rfl
  have HW0 : Hid (Writes W b s W0) := by rw [Hid, hW0]; exact hw.alloc _
  have HK0 : Hid (Keeps b w W0) := by rw [Hid, hW0]; exact (Keeps.refl _ _).alloc _
  have HB0 : Hid (Keeps b W0 W0) := Keeps.refl _ _
  have HLT : Hid (b < w.heap.size) := hw.lt
  have HNe : Hid (w.heap.size ≠ b) := by have := HLT.out; rw [Hid]; omega
  have HE0 : Hid _ := hW0
  clear hW0 hw hts hn2 hn3 hn4 hI hO hE hr hrow hq hV hv0 hvn hn5
  go_enter Tryd.func12, Tryd.ntmps12
  go_wp2_with fail
  rw [← HE0.out]
  refine (put_new [⟨#[102, 108, 111, 119, 32]⟩, nm, ⟨#[40]⟩] _ _ (t := ([102, 108, 111, 119, 32] ++ (nm.data.toList ++ [40]))) (by first | rfl | simp [flat]) (by have := HS0.out; omega) HW0.out (by simp) (room_app HR.out).1).mono ?_
  rintro x w1 ⟨rfl, hw1, hk1⟩
  have HW1 : Hid (Writes W b (s ++ ([102, 108, 111, 119, 32] ++ (nm.data.toList ++ [40]))) w1) := hw1
  have HB1 : Hid (Keeps b W0 w1) := HB0.out.trans (hk1)
  clear hw1 hk1
  have HR1 : Hid (room (s ++ ([102, 108, 111, 119, 32] ++ (nm.data.toList ++ [40]))) (I ++ ([41, 32, 114, 101, 116, 117, 114, 110, 115, 32, 40] ++ (O ++ ([41, 10] ++ ([118, 97, 114, 32] ++ (V ++ ([59, 10] ++ ([108, 101, 116, 10] ++ (E ++ ([116, 101, 108, 10]))))))))))) := (room_app HR.out).2
  have bx := HB1.out.block HBx.out HNe.out (by decide)
  have c3 : w1.cell? ⟨w.heap.size, 3, none⟩ = some (.slice ia n1 ic) := by rw [cell_of_row bx]; rfl
  clear bx
  go_wp2_with fail
  clear c3
  refine (hin _ _ HW1.out (room_app HR1.out).1).mono ?_
  rintro x w2 ⟨rfl, hw2, hk2⟩
  have HW2 : Hid (Writes W b ((s ++ ([102, 108, 111, 119, 32] ++ (nm.data.toList ++ [40]))) ++ I) w2) := hw2
  have HB2 : Hid (Keeps b W0 w2) := HB1.out.trans (hk2)
  clear hw2 hk2
  have HR2 : Hid (room ((s ++ ([102, 108, 111, 119, 32] ++ (nm.data.toList ++ [40]))) ++ I) ([41, 32, 114, 101, 116, 117, 114, 110, 115, 32, 40] ++ (O ++ ([41, 10] ++ ([118, 97, 114, 32] ++ (V ++ ([59, 10] ++ ([108, 101, 116, 10] ++ (E ++ ([116, 101, 108, 10])))))))))) := (room_app HR1.out).2
  go_wp2_with fail
  refine (put_new [⟨#[41, 32, 114, 101, 116, 117, 114, 110, 115, 32, 40]⟩] _ _ (t := [41, 32, 114, 101, 116, 117, 114, 110, 115, 32, 40]) (by first | rfl | simp [flat]) (by rfl) HW2.out (by simp) (room_app HR2.out).1).mono ?_
  rintro x w3 ⟨rfl, hw3, hk3⟩
  have HW3 : Hid (Writes W b (((s ++ ([102, 108, 111, 119, 32] ++ (nm.data.toList ++ [40]))) ++ I) ++ [41, 32, 114, 101, 116, 117, 114, 110, 115, 32, 40]) w3) := hw3
  have HB3 : Hid (Keeps b W0 w3) := HB2.out.trans (hk3)
  clear hw3 hk3
  have HR3 : Hid (room (((s ++ ([102, 108, 111, 119, 32] ++ (nm.data.toList ++ [40]))) ++ I) ++ [41, 32, 114, 101, 116, 117, 114, 110, 115, 32, 40]) (O ++ ([41, 10] ++ ([118, 97, 114, 32] ++ (V ++ ([59, 10] ++ ([108, 101, 116, 10] ++ (E ++ ([116, 101, 108, 10]))))))))) := (room_app HR2.out).2
  have bx := HB3.out.block HBx.out HNe.out (by decide)
  have c4 : w3.cell? ⟨w.heap.size, 4, none⟩ = some (.slice oa n2 oc) := by rw [cell_of_row bx]; rfl
  clear bx
  go_wp2_with fail
  clear c4
  refine (hout _ _ HW3.out (room_app HR3.out).1).mono ?_
  rintro x w4 ⟨rfl, hw4, hk4⟩
  have HW4 : Hid (Writes W b ((((s ++ ([102, 108, 111, 119, 32] ++ (nm.data.toList ++ [40]))) ++ I) ++ [41, 32, 114, 101, 116, 117, 114, 110, 115, 32, 40]) ++ O) w4) := hw4
  have HB4 : Hid (Keeps b W0 w4) := HB3.out.trans (hk4)
  clear hw4 hk4
  have HR4 : Hid (room ((((s ++ ([102, 108, 111, 119, 32] ++ (nm.data.toList ++ [40]))) ++ I) ++ [41, 32, 114, 101, 116, 117, 114, 110, 115, 32, 40]) ++ O) ([41, 10] ++ ([118, 97, 114, 32] ++ (V ++ ([59, 10] ++ ([108, 101, 116, 10] ++ (E ++ ([116, 101, 108, 10])))))))) := (room_app HR3.out).2
  go_wp2_with fail
  refine (put_new [⟨#[41, 10]⟩] _ _ (t := [41, 10]) (by first | rfl | simp [flat]) (by rfl) HW4.out (by simp) (room_app HR4.out).1).mono ?_
  rintro x w5 ⟨rfl, hw5, hk5⟩
  have HW5 : Hid (Writes W b (((((s ++ ([102, 108, 111, 119, 32] ++ (nm.data.toList ++ [40]))) ++ I) ++ [41, 32, 114, 101, 116, 117, 114, 110, 115, 32, 40]) ++ O) ++ [41, 10]) w5) := hw5
  have HB5 : Hid (Keeps b W0 w5) := HB4.out.trans (hk5)
  clear hw5 hk5
  have HR5 : Hid (room (((((s ++ ([102, 108, 111, 119, 32] ++ (nm.data.toList ++ [40]))) ++ I) ++ [41, 32, 114, 101, 116, 117, 114, 110, 115, 32, 40]) ++ O) ++ [41, 10]) ([118, 97, 114, 32] ++ (V ++ ([59, 10] ++ ([108, 101, 116, 10] ++ (E ++ ([116, 101, 108, 10]))))))) := (room_app HR4.out).2
  have bx := HB5.out.block HBx.out HNe.out (by decide)
  have c5 : w5.cell? ⟨w.heap.size, 5, none⟩ = some (.slice va n3 vc) := by rw [cell_of_row bx]; rfl
  clear bx
  go_wp2_with fail
  clear c5
  refine (put_new [⟨#[118, 97, 114, 32]⟩] _ _ (t := [118, 97, 114, 32]) (by first | rfl | simp [flat]) (by rfl) HW5.out (by simp) (room_app HR5.out).1).mono ?_
  rintro x w6 ⟨rfl, hw6, hk6⟩
  have HW6 : Hid (Writes W b ((((((s ++ ([102, 108, 111, 119, 32] ++ (nm.data.toList ++ [40]))) ++ I) ++ [41, 32, 114, 101, 116, 117, 114, 110, 115, 32, 40]) ++ O) ++ [41, 10]) ++ [118, 97, 114, 32]) w6) := hw6
  have HB6 : Hid (Keeps b W0 w6) := HB5.out.trans (hk6)
  clear hw6 hk6
  have HR6 : Hid (room ((((((s ++ ([102, 108, 111, 119, 32] ++ (nm.data.toList ++ [40]))) ++ I) ++ [41, 32, 114, 101, 116, 117, 114, 110, 115, 32, 40]) ++ O) ++ [41, 10]) ++ [118, 97, 114, 32]) (V ++ ([59, 10] ++ ([108, 101, 116, 10] ++ (E ++ ([116, 101, 108, 10])))))) := (room_app HR5.out).2
  have bx := HB6.out.block HBx.out HNe.out (by decide)
  have c5 : w6.cell? ⟨w.heap.size, 5, none⟩ = some (.slice va n3 vc) := by rw [cell_of_row bx]; rfl
  clear bx
  go_wp2_with fail
  clear c5
  refine (hvar _ _ HW6.out (room_app HR6.out).1).mono ?_
  rintro x w7 ⟨rfl, hw7, hk7⟩
  have HW7 : Hid (Writes W b (((((((s ++ ([102, 108, 111, 119, 32] ++ (nm.data.toList ++ [40]))) ++ I) ++ [41, 32, 114, 101, 116, 117, 114, 110, 115, 32, 40]) ++ O) ++ [41, 10]) ++ [118, 97, 114, 32]) ++ V) w7) := hw7
  have HB7 : Hid (Keeps b W0 w7) := HB6.out.trans (hk7)
  clear hw7 hk7
  have HR7 : Hid (room (((((((s ++ ([102, 108, 111, 119, 32] ++ (nm.data.toList ++ [40]))) ++ I) ++ [41, 32, 114, 101, 116, 117, 114, 110, 115, 32, 40]) ++ O) ++ [41, 10]) ++ [118, 97, 114, 32]) ++ V) ([59, 10] ++ ([108, 101, 116, 10] ++ (E ++ ([116, 101, 108, 10]))))) := (room_app HR6.out).2
  go_wp2_with fail
  refine (put_new [⟨#[59, 10]⟩] _ _ (t := [59, 10]) (by first | rfl | simp [flat]) (by rfl) HW7.out (by simp) (room_app HR7.out).1).mono ?_
  rintro x w8 ⟨rfl, hw8, hk8⟩
  have HW8 : Hid (Writes W b ((((((((s ++ ([102, 108, 111, 119, 32] ++ (nm.data.toList ++ [40]))) ++ I) ++ [41, 32, 114, 101, 116, 117, 114, 110, 115, 32, 40]) ++ O) ++ [41, 10]) ++ [118, 97, 114, 32]) ++ V) ++ [59, 10]) w8) := hw8
  have HB8 : Hid (Keeps b W0 w8) := HB7.out.trans (hk8)
  clear hw8 hk8
  have HR8 : Hid (room ((((((((s ++ ([102, 108, 111, 119, 32] ++ (nm.data.toList ++ [40]))) ++ I) ++ [41, 32, 114, 101, 116, 117, 114, 110, 115, 32, 40]) ++ O) ++ [41, 10]) ++ [118, 97, 114, 32]) ++ V) ++ [59, 10]) ([108, 101, 116, 10] ++ (E ++ ([116, 101, 108, 10])))) := (room_app HR7.out).2
  go_wp2_with fail
  refine (put_new [⟨#[108, 101, 116, 10]⟩] _ _ (t := [108, 101, 116, 10]) (by first | rfl | simp [flat]) (by rfl) HW8.out (by simp) (room_app HR8.out).1).mono ?_
  rintro x w9 ⟨rfl, hw9, hk9⟩
  have HW9 : Hid (Writes W b (((((((((s ++ ([102, 108, 111, 119, 32] ++ (nm.data.toList ++ [40]))) ++ I) ++ [41, 32, 114, 101, 116, 117, 114, 110, 115, 32, 40]) ++ O) ++ [41, 10]) ++ [118, 97, 114, 32]) ++ V) ++ [59, 10]) ++ [108, 101, 116, 10]) w9) := hw9
  have HB9 : Hid (Keeps b W0 w9) := HB8.out.trans (hk9)
  clear hw9 hk9
  have HR9 : Hid (room (((((((((s ++ ([102, 108, 111, 119, 32] ++ (nm.data.toList ++ [40]))) ++ I) ++ [41, 32, 114, 101, 116, 117, 114, 110, 115, 32, 40]) ++ O) ++ [41, 10]) ++ [118, 97, 114, 32]) ++ V) ++ [59, 10]) ++ [108, 101, 116, 10]) (E ++ ([116, 101, 108, 10]))) := (room_app HR8.out).2
  have bx := HB9.out.block HBx.out HNe.out (by decide)
  have c6 : w9.cell? ⟨w.heap.size, 6, none⟩ = some (.slice qa n qc) := by rw [cell_of_row bx]; rfl
  clear bx
  go_wp2_with fail
  clear c6
  obtain ⟨S, hS⟩ : ∃ S, S = (((((((((s ++ ([102, 108, 111, 119, 32] ++ (nm.data.toList ++ [40]))) ++ I) ++ [41, 32, 114, 101, 116, 117, 114, 110, 115, 32, 40]) ++ O) ++ [41, 10]) ++ [118, 97, 114, 32]) ++ V) ++ [59, 10]) ++ [108, 101, 116, 10]) := ⟨_, rfl⟩
  have HSe : Hid _ := hS
  rw [← hS] at HW9 HR9
  clear hS hin hout hvar hpos hn3b
  go_loopw [49] (fun i wr => ∃ k : Nat, k ≤ n ∧ i = .int .i64 k ∧ Hid (Writes W b (S ++ (ts.take k).flatten) wr) ∧ Hid (Keeps b W0 wr)) (fun i _ => n - (intOf i).toNat)
  case atStart => exact ⟨0, by omega, rfl, by simpa [Hid] using HW9.out, HB9⟩
  case round =>
    obtain ⟨k, hk, rfl, HWr, HBr⟩ := hrel
    by_cases hlt : k < n
    · have hkl : k < eqs.length := by rw [← HN.out]; exact hlt
      have hkt : k < ts.length := by rw [HLen.out]; exact hlt
      obtain ⟨bA, oA, rfl, hbA, hrow⟩ := HL.out (by intro h; rw [h] at hkl; simp at hkl)
      have hcr := old_cells (n := 8) HWr.out.bel hbA (fun j hj => hrow k hkl j hj)
      have HF : Hid ((ts.take (k + 1)).flatten = (ts.take k).flatten ++ ts[k]) := flat_at2 _ _ hkt
      have hx : ts[k] = eqs[k].text := by simp [HTS.out]
      have HR0 : Hid (room S (ts.flatten ++ [116, 101, 108, 10])) := by rw [← HEt.out]; exact HR9.out
      have HRk0 := room_flat HR0.out k hkt
      rw [hx, eqn_text] at HRk0
      obtain ⟨CL0, CX0⟩ := HQ.out eqs[k] (List.getElem_mem hkl)
      unfold PutsLeft at CL0
      unfold PutsExpr at CX0
      rw [hx, eqn_text] at HF
      generalize eqs[k] = x at *
      obtain ⟨L, hL⟩ : ∃ L, L = leftOf x.ns := ⟨_, rfl⟩
      obtain ⟨X, hX⟩ : ∃ X, X = x.e.text := ⟨_, rfl⟩
      rw [← hL] at CL0
      rw [← hX] at CX0
      rw [← hL, ← hX] at HF HRk0
      have HRk : Hid (room (S ++ (ts.take k).flatten) (([32, 32] ++ (L ++ [32, 61, 32])) ++ (X ++ [59, 10]))) := HRk0
      have HCL : Hid (∀ w, Below W.heap.size W w → Calls Tryd.prog 24 #[.slice x.na x.ns.length x.nc] w fun e w' => e = .returned (.string ⟨L.toArray⟩) ∧ Below w.heap.size w w') := CL0
      clear hL hX HRk0 hx CL0
      obtain ⟨nax, ncx, nsx, plx, ⟨kx, px, nx, ix, dx, ax, cx, qx⟩⟩ := x
      obtain ⟨lx, hlx⟩ : ∃ lx, lx = qx.length := ⟨_, rfl⟩
      obtain ⟨ln, hln⟩ : ∃ ln, ln = nsx.length := ⟨_, rfl⟩
      simp only [Eqn.cells, Ex.val, Ex.cells, List.toArray, pv, ← hlx, ← hln] at CX0 hcr HCL
      have c0 : wr.cell? ⟨bA, oA + k * 8, none⟩ = some (.slice nax ln ncx) := hcr 0 (by omega)
      have c1 : wr.cell? ⟨bA, oA + k * 8 + 1, none⟩ = some (.int .i64 plx) := hcr 1 (by omega)
      have c2 : wr.cell? ⟨bA, oA + k * 8 + 2, none⟩ = some (.int .u8 kx) := hcr 2 (by omega)
      have c3 : wr.cell? ⟨bA, oA + k * 8 + 3, none⟩ = some (.int .i64 px) := hcr 3 (by omega)
      have c4 : wr.cell? ⟨bA, oA + k * 8 + 4, none⟩ = some (.string nx) := hcr 4 (by omega)
      have c5 : wr.cell? ⟨bA, oA + k * 8 + 5, none⟩ = some (.int .i64 ix) := hcr 5 (by omega)
      have c6 : wr.cell? ⟨bA, oA + k * 8 + 6, none⟩ = some (.int .i64 dx) := hcr 6 (by omega)
      have c7 : wr.cell? ⟨bA, oA + k * 8 + 7, none⟩ = some (.slice ax lx cx) := hcr 7 (by omega)
      have hbl : bA < wr.heap.size := World.block_lt_of_cell? wr ⟨bA, oA + k * 8, none⟩ c0
      obtain ⟨W1, hW1⟩ : ∃ W1 : World, W1 = wr.alloc (.cells #[.slice nax ln ncx, .int .i64 plx, .int .u8 kx, .int .i64 px, .string nx, .int .i64 ix, .int .i64 dx, .slice ax lx cx] 43) := ⟨_, rfl⟩
      have HS1 : Hid (W1.heap.size = wr.heap.size + 1) := by rw [Hid, hW1]; simp
      have HBy : Hid (W1.heap[wr.heap.size]? = some (.cells #[.slice nax ln ncx, .int .i64 plx, .int .u8 kx, .int .i64 px, .string nx, .int .i64 ix, .int .i64 dx, .slice ax lx cx] 43 (0, 0))) := by rw [Hid, hW1]; exact heap_at rfl
      have HWa : Hid (Writes W b (S ++ (ts.take k).flatten) W1) := by rw [Hid, hW1]; exact HWr.out.alloc _
      have HBa : Hid (Keeps b W0 W1) := by rw [Hid, hW1]; exact HBr.out.alloc _
      have HNy : Hid (wr.heap.size ≠ b) := by have := HWr.out.lt; rw [Hid]; omega
      have CL := HCL.out W1 HWa.out.bel
      have HE1 : Hid _ := hW1
      clear hW1 hrow hcr hlx hln hkl hkt HCL
      go_wp2_with fail
      rw [← HE1.out]
      refine CL.mono ?_
      rintro x v1 ⟨rfl, hv1⟩
      have HV1 : Hid (Writes W b (S ++ (ts.take k).flatten) v1) := HWa.out.below hv1
      have HK1 : Hid (Keeps b W1 v1) := (Keeps.refl _ _).below hv1
      clear CL hv1 c0 c1 c2 c3 c4 c5 c6 c7 hbl
      go_wp2_with fail
      refine (put_new [⟨#[32, 32]⟩, ⟨L.toArray⟩, ⟨#[32, 61, 32]⟩] _ _ (t := [32, 32] ++ (L ++ [32, 61, 32])) (by simp [flat]) (by rfl) HV1.out (by simp) (room_app HRk.out).1).mono ?_
      rintro x v2 ⟨rfl, hw2, hk2⟩
      have HV2 : Hid (Writes W b ((S ++ (ts.take k).flatten) ++ ([32, 32] ++ (L ++ [32, 61, 32]))) v2) := hw2
      have HK2 : Hid (Keeps b W1 v2) := HK1.out.trans hk2
      have bx := HK2.out.block HBy.out HNy.out (by decide)
      have d2 : v2.cell? ⟨wr.heap.size, 2, none⟩ = some (.int .u8 kx) := by rw [cell_of_row bx]; rfl
      have d3 : v2.cell? ⟨wr.heap.size, 2 + 1, none⟩ = some (.int .i64 px) := by rw [cell_of_row bx]; rfl
      have d4 : v2.cell? ⟨wr.heap.size, 2 + 2, none⟩ = some (.string nx) := by rw [cell_of_row bx]; rfl
      have d5 : v2.cell? ⟨wr.heap.size, 2 + 3, none⟩ = some (.int .i64 ix) := by rw [cell_of_row bx]; rfl
      have d6 : v2.cell? ⟨wr.heap.size, 2 + 4, none⟩ = some (.int .i64 dx) := by rw [cell_of_row bx]; rfl
      have d7 : v2.cell? ⟨wr.heap.size, 2 + 5, none⟩ = some (.slice ax lx cx) := by rw [cell_of_row bx]; rfl
      clear hw2 hk2 bx
      go_wp2_with fail
      refine (CX0 _ _ HV2.out (room_app (room_app HRk.out).2).1).mono ?_
      rintro x v3 ⟨rfl, hw3, hk3⟩
      have HV3 : Hid (Writes W b (((S ++ (ts.take k).flatten) ++ ([32, 32] ++ (L ++ [32, 61, 32]))) ++ X) v3) := hw3
      have HK3 : Hid (Keeps b W1 v3) := HK2.out.trans hk3
      clear hw3 hk3 d2 d3 d4 d5 d6 d7 CX0
      go_wp2_with fail
      refine (put_new [⟨#[59, 10]⟩] _ _ (t := [59, 10]) rfl (by rfl) HV3.out (by simp) (room_app (room_app HRk.out).2).2).mono ?_
      rintro x v4 ⟨rfl, hw4, hk4⟩
      have HV4 : Hid (Writes W b (S ++ (ts.take (k + 1)).flatten) v4) := by rw [Hid, HF.out]; simpa using hw4
      have HK4 : Hid (Keeps b W0 v4) := HBa.out.trans (HK3.out.trans hk4)
      clear hw4 hk4
      go_wp2_with fail
      go_roundw
      case rel => exact ⟨k + 1, by omega, by go_num, HV4, HK4⟩
      case measure => simp [intOf]; omega
    · obtain rfl : k = n := by omega
      have HWE : Hid (Writes W b (S ++ E) wr) := by have := HWr.out; rw [← HLen.out, List.take_length, ← HEt.out] at this; exact this
      have HRE : Hid (room (S ++ E) [116, 101, 108, 10]) := (room_app HR9.out).2
      go_wp2_with fail
      refine (put_new [⟨#[116, 101, 108, 10]⟩] _ _ (t := [116, 101, 108, 10]) rfl (by rfl) HWE.out (by simp) HRE.out).mono ?_
      rintro x v5 ⟨rfl, hw5, hk5⟩
      have HV5 : Hid (Writes W b ((S ++ E) ++ [116, 101, 108, 10]) v5) := hw5
      have HK5 : Hid (Keeps b W0 v5) := HBr.out.trans hk5
      clear hw5 hk5
      go_wp2_with fail
      go_end0
      exact ⟨rfl, by rw [HT.out]; have := HV5.out; rw [HSe.out] at this; simpa using this, HK0.out.trans HK5.out⟩
end Go.Proofs.YtbahpbinilnfoaaDoor
/- The program's Program of package show. -/
namespace Go.Proofs.YtbahpbinilnfoaaDoor
open Go.RowKit
open Ex.size Ex.depth Ex.lies Ex.bulk Ex.good Ex.shape Ex.text
attribute [local go_sem] later_size later_cell later_frozen later_setCell later_drew later_drewN later_tape drewN_setCell drewN_alloc drewN_later later_later lt_more lt_more1 lt_more2 lt_more3 lt_more4 lk0_0_1 lk1_0_1 lk2_0_1 lk0_0_2 lk1_0_2 lk2_0_2 lk0_1_2 lk0_0_3 lk1_0_3 lk2_0_3 lk0_1_3 lk0_2_3 lk0_0_4 lk1_0_4 lk2_0_4 lk0_1_4 lk0_2_4 lk0_3_4 lk0_0_5 lk1_0_5 lk2_0_5 lk0_1_5 lk0_2_5 lk0_3_5 lk0_4_5 lk0_0_6 lk1_0_6 lk2_0_6 lk0_1_6 lk0_2_6 lk0_3_6 lk0_4_6 lk0_5_6 lk0_0_7 lk1_0_7 lk2_0_7 lk0_1_7 lk0_2_7 lk0_3_7 lk0_4_7 lk0_5_7 lk0_6_7
/-- Its numbers are numbers, its rows have room. -/
def Nd.nums (n : Nd) : Prop := (∀ p ∈ n.ins, p.wf) ∧ (∀ p ∈ n.outs, p.wf) ∧ (∀ p ∈ n.vars, p.wf) ∧ ∀ q ∈ n.eqs, q.ns.length ≤ q.nc
theorem pms_types {rate due : Bool} {l : List Pm} (h : l.all (pmsB rate due) = true) : ∀ p ∈ l, p.ty = 1 ∨ p.ty = 2 := fun p hp => by
  have := List.all_eq_true.1 h p hp
  simp only [pmsB, pmB, pmNums, Bool.and_eq_true, Bool.or_eq_true, beq_iff_eq] at this
  exact this.1.1.2.1.1
theorem pms_names {rate due : Bool} {l : List Pm} (h : l.all (pmsB rate due) = true) : ∀ p ∈ l, nameB p.nm = true := fun p hp => by
  have := List.all_eq_true.1 h p hp
  simp only [pmsB, pmB, Bool.and_eq_true] at this
  exact this.1.1.1
theorem putNode_all {W : World} {b : Nat} (hpow : HasPow W) (htw : HasTwos W) (hng : 6 ≤ W.heap.size) (n : Nd) (hl : n.lies W) (hg : n.good) (hnum : n.nums) (hb : ndB n = true) (s : List UInt8) (w : World) (hw : Writes W b s w) (hr : room s n.text) :
    Calls Tryd.prog 12 #[pv b, n.val] w fun r w' => r = .returned (.tuple #[]) ∧ Writes W b (s ++ n.text) w' ∧ Keeps b w w' := by
  obtain ⟨hl1, hl2, hl3, hl4, hl5⟩ := hl
  obtain ⟨-, g1, g2, g3, g4, -, -, -, g8⟩ := hg
  obtain ⟨m1, m2, m3, m4⟩ := hnum
  simp only [ndB, Bool.and_eq_true] at hb
  obtain ⟨⟨-, ⟨b1, b2⟩, b3⟩, b4⟩ := hb
  have hin : PutsPms W b n.ia n.ic n.ins := fun s w hw hr => putParams_calls hpow hng n.ins n.ia n.ic hl1 g1 (fun p hp => ⟨m1 p hp, pms_types b1 p hp⟩) s w hw hr
  have hout : PutsPms W b n.oa n.oc n.outs := fun s w hw hr => putParams_calls hpow hng n.outs n.oa n.oc hl2 g2 (fun p hp => ⟨m2 p hp, pms_types b2 p hp⟩) s w hw hr
  have hvar : PutsPms W b n.va n.vc n.vars := fun s w hw hr => putParams_calls hpow hng n.vars n.va n.vc hl3 g3 (fun p hp => ⟨m3 p hp, pms_types b3 p hp⟩) s w hw hr
  have hq : ∀ q ∈ n.eqs, PutsLeft W q ∧ PutsExpr W b q.e := fun q hq => by
    have e1 := List.all_eq_true.1 b4 q hq
    simp only [eqB, Bool.and_eq_true, decide_eq_true_eq] at e1
    obtain ⟨⟨⟨e2, e3⟩, e4⟩, e5⟩ := e1
    obtain ⟨k1, k2⟩ := hl5 q hq
    obtain ⟨k3, k4, k5, k6⟩ := g8 q hq
    exact ⟨fun w hw => left_calls q.ns q.na q.nc w (fun h0 => by
        obtain ⟨b, o, e, hb, hr⟩ := k1 h0
        exact ⟨b, o, e, Nat.lt_of_lt_of_le hb hw.size, fun i hi j hj => (hw.cell (p := ⟨b, _, none⟩) hb).trans (hr i hi j hj)⟩) e2 e3 (m4 q hq) k3, putExpr_all hpow htw hng _ q.e (Nat.le_refl _) e5 k5 k2⟩
  obtain ⟨fl, nm, pl, ia, ic, ins, oa, oc, outs, va, vc, vars, qa, qc, eqs⟩ := n
  by_cases hv0 : vars = []
  · subst hv0
    cases fl
    · exact putNode_00 hin hout hl4 g4 hq s w hw hr
    · exact putNode_10 hin hout hl4 g4 hq s w hw hr
  · cases fl
    · exact putNode_01 hin hout hvar hv0 g3 hl4 g4 hq s w hw hr
    · exact putNode_11 hin hout hvar hv0 g3 hl4 g4 hq s w hw hr
/-- How long a program's text is. -/
theorem pm_len {p : Pm} (hn : nameB p.nm = true) (hw : p.wf) : p.text.length ≤ 120 := by
  have h1 := name_len hn
  have h2 := itoa_len hw.1
  have h3 := itoa_len hw.2.1
  have h4 := itoa_len hw.2.2
  rw [pm_text]
  have e1 : (kindText p.ty).length ≤ 4 := by unfold kindText; split <;> simp
  have e2 : (rateText p.rt p.pd p.st).length ≤ 53 := by
    unfold rateText
    split
    · simp only [List.length_append, List.length_cons, List.length_nil]; omega
    · simp
  have e3 : (dueText p.du).length ≤ 26 := by
    unfold dueText
    split
    · simp only [List.length_append, List.length_cons, List.length_nil]; omega
    · simp
  simp only [List.length_append, List.length_cons, List.length_nil]
  omega
theorem pms_len {l : List Pm} (h : ∀ p ∈ l, nameB p.nm = true ∧ p.wf) (hl : l.length ≤ 32) : (pmsText l).length ≤ 3904 := by
  have := between_len [59, 32] (l.map Pm.text) 120 fun x hx => by
    obtain ⟨p, hp, rfl⟩ := List.mem_map.1 hx
    exact pm_len (h p hp).1 (h p hp).2
  simp only [List.length_map, List.length_cons, List.length_nil] at this
  have h2 : l.length * (0 + 1 + 1 + 120) ≤ 32 * (0 + 1 + 1 + 120) := Nat.mul_le_mul_right _ hl
  unfold pmsText
  omega
theorem left_len {ns : List ByteArray} (h : ∀ s ∈ ns, nameB s = true) (hl : ns.length ≤ 32) : (leftOf ns).length ≤ 1090 := by
  have := between_len [44, 32] (ns.map (·.data.toList)) 32 fun x hx => by
    obtain ⟨p, hp, rfl⟩ := List.mem_map.1 hx
    exact name_len (h p hp)
  simp only [List.length_map, List.length_cons, List.length_nil] at this
  have h2 : ns.length * (0 + 1 + 1 + 32) ≤ 32 * (0 + 1 + 1 + 32) := Nat.mul_le_mul_right _ hl
  unfold leftOf
  split
  · omega
  · simp only [List.length_append, List.length_cons, List.length_nil]; omega
theorem eqs_len {l : List Eqn} (h : ∀ q ∈ l, eqB q = true ∧ q.e.good) : (eqsText l).length ≤ l.length * 1097 + 100 * eqSizes l := by
  induction l with
  | nil => simp [eqsText]
  | cons q r ih =>
    have h1 := ih fun x hx => h x (by simp [hx])
    obtain ⟨e1, hg⟩ := h q (by simp)
    simp only [eqB, Bool.and_eq_true, decide_eq_true_eq] at e1
    obtain ⟨⟨⟨e2, e3⟩, e4⟩, e5⟩ := e1
    have h2 := left_len (fun s hs => List.all_eq_true.1 e4 s hs) e3
    have h3 := text_len _ q.e (Nat.le_refl _) e5 hg
    have e6 : eqsText (q :: r) = q.text ++ eqsText r := by simp [eqsText]
    rw [e6, eqn_text]
    simp only [List.length_append, List.length_cons, List.length_nil, eqSizes]
    omega
theorem nd_len {n : Nd} (hf : fewB n = true) (hb : ndB n = true) (hm : n.nums) (hg : n.good) : n.text.length ≤ 153000 + 100 * eqSizes n.eqs := by
  simp only [fewB, decide_eq_true_eq] at hf
  obtain ⟨f1, f2, f3, f4⟩ := hf
  simp only [ndB, Bool.and_eq_true] at hb
  obtain ⟨⟨b0, ⟨b1, b2⟩, b3⟩, b4⟩ := hb
  have h0 := name_len b0
  have h1 := pms_len (fun p hp => ⟨pms_names b1 p hp, hm.1 p hp⟩) f1
  have h2 := pms_len (fun p hp => ⟨pms_names b2 p hp, hm.2.1 p hp⟩) f2
  have h3 := pms_len (fun p hp => ⟨pms_names b3 p hp, hm.2.2.1 p hp⟩) f3
  have h4 := eqs_len fun q hq => ⟨List.all_eq_true.1 b4 q hq, (hg.2.2.2.2.2.2.2.2 q hq).2.2.1⟩
  unfold Nd.text
  have e1 : (if n.fl = true then ([102, 108, 111, 119, 32] : List UInt8) else [110, 111, 100, 101, 32]).length = 5 := by split <;> rfl
  have e2 : (if n.vars = [] then ([] : List UInt8) else [118, 97, 114, 32] ++ pmsText n.vars ++ [59, 10]).length ≤ 3910 := by
    split
    · simp
    · simp only [List.length_append, List.length_cons, List.length_nil]; omega
  simp only [List.length_append, List.length_cons, List.length_nil]
  omega
theorem nds_len {l : List Nd} (h : ∀ n ∈ l, fewB n = true ∧ ndB n = true ∧ n.nums ∧ n.good) : (ndsText l).length ≤ l.length * 153000 + 100 * ndSizes l := by
  induction l with
  | nil => simp [ndsText]
  | cons n r ih =>
    have h1 := ih fun x hx => h x (by simp [hx])
    obtain ⟨f, b, m, g⟩ := h n (by simp)
    have h2 := nd_len f b m g
    have e6 : ndsText (n :: r) = n.text ++ ndsText r := by simp [ndsText]
    rw [e6]
    simp only [List.length_append, List.length_cons, ndSizes]
    omega
/-- What a program that may be is. -/
theorem may_ok {l : List Nd} (h : mayOf l = 0) : l.length ≤ 64 ∧ ndSizes l ≤ 4096 ∧ ∀ n ∈ l, fewB n = true ∧ ndB n = true := by
  unfold mayOf at h
  split at h
  · exact absurd h (by decide)
  split at h
  · exact absurd h (by decide)
  split at h
  · exact absurd h (by decide)
  split at h
  · exact absurd h (by decide)
  rename_i h1 h2 h3 h4
  have h1' : (decide (l.length ≤ 64) && l.all fewB) = true := by simpa using h1
  have h2' : l.all ndB = true := by simpa using h2
  simp only [Bool.and_eq_true, decide_eq_true_eq] at h1'
  exact ⟨h1'.1, by omega, fun n hn => ⟨List.all_eq_true.1 h1'.2 n hn, List.all_eq_true.1 h2' n hn⟩⟩
/-- What is answered for a program. -/
def progOut (l : List Nd) : ByteArray × Int := if mayOf l = 0 then outOf (ndsText l) else (⟨#[]⟩, mayOf l)
set_option maxRecDepth 100000 in
set_option maxHeartbeats 3200000 in
theorem program1_calls {W w : World} {b k : Nat} {s : List UInt8} (l : List Nd) (a : Option Addr) (c : Nat) (hrow : rowIn Nd.cells 7 W a l) (hn : l.length ≤ 1048576) (hp : ∀ n ∈ l, ∀ s w, Writes W b s w → room s n.text → Calls Tryd.prog 12 #[pv b, n.val] w fun r w' => r = .returned (.tuple #[]) ∧ Writes W b (s ++ n.text) w' ∧ Keeps b w w')
    (hbx : w.heap[k]? = some (.cells #[.slice a l.length c] 25 (0, 0))) (hw : Writes W b s w) (hr : room s (ndsText l)) :
    Calls Tryd.prog 11 #[pv b, .pointer (some ⟨k, 0, none⟩)] w fun x w' => x = .returned (.tuple #[]) ∧ Writes W b (s ++ ndsText l) w' ∧ Keeps b w w' := by
  obtain ⟨ts, hts⟩ : ∃ ts, ts = l.map Nd.text := ⟨_, rfl⟩
  have HTS : Hid _ := hts
  have HT : Hid (ndsText l = ts.flatten) := by rw [Hid, hts]; rfl
  have HR : Hid (room s (ts.flatten ++ [])) := by rw [Hid, List.append_nil, ← HT.out]; exact hr
  generalize ndsText l = pt at *
  have HIH : Hid _ := hp
  have HL : Hid _ := hrow
  have c0 : w.cell? ⟨k, 0, none⟩ = some (.slice a l.length c) := by rw [cell_of_row hbx]; rfl
  obtain ⟨n, hn2⟩ : ∃ n, n = l.length := ⟨_, rfl⟩
  have HN : Hid (n = l.length) := hn2
  have HLen : Hid (ts.length = n) := by rw [Hid, hts, List.length_map, hn2]
  rw [← hn2] at hn c0
  have HW0 : Hid (Writes W b s w) := hw
  simp only [pv]
  clear hw hts hn2 hr hrow hp hbx
  go_enter Tryd.func11, Tryd.ntmps11
  go_wp2_with fail
  go_loopw [8] (fun i wr => ∃ k : Nat, k ≤ n ∧ i = .int .i64 k ∧ Hid (Writes W b (s ++ (ts.take k).flatten) wr) ∧ Hid (Keeps b w wr)) (fun i _ => n - (intOf i).toNat)
  case atStart => exact ⟨0, by omega, rfl, by simpa [Hid] using HW0.out, Keeps.refl _ _⟩
  case round =>
    obtain ⟨k, hk, rfl, HWr, HBr⟩ := hrel
    by_cases hlt : k < n
    · have hkl : k < l.length := by rw [← HN.out]; exact hlt
      have hkt : k < ts.length := by rw [HLen.out]; exact hlt
      obtain ⟨bA, oA, rfl, hbA, hrow⟩ := HL.out (by intro h; rw [h] at hkl; simp at hkl)
      have hcr := old_cells (n := 7) HWr.out.bel hbA (fun j hj => hrow k hkl j hj)
      have HF : Hid ((ts.take (k + 1)).flatten = (ts.take k).flatten ++ ts[k]) := flat_at2 _ _ hkt
      have HRk : Hid (room (s ++ (ts.take k).flatten) ts[k]) := room_flat HR.out k hkt
      have hx : ts[k] = l[k].text := by simp [HTS.out]
      have CX0 := HIH.out l[k] (List.getElem_mem hkl)
      rw [← hx] at CX0
      generalize ts[k] = tk at *
      generalize l[k] = x at *
      obtain ⟨fl, nm, pl, ia, ic, ins, oa, oc, outs, va, vc, vars, qa, qc, eqs⟩ := x
      obtain ⟨n1, hn1⟩ : ∃ n, n = ins.length := ⟨_, rfl⟩
      obtain ⟨n2, hn2⟩ : ∃ n, n = outs.length := ⟨_, rfl⟩
      obtain ⟨n3, hn3⟩ : ∃ n, n = vars.length := ⟨_, rfl⟩
      obtain ⟨n4, hn4⟩ : ∃ n, n = eqs.length := ⟨_, rfl⟩
      simp only [Nd.val, Nd.cells, List.toArray, pv, ← hn1, ← hn2, ← hn3, ← hn4] at CX0 hcr
      have c0 : wr.cell? ⟨bA, oA + k * 7, none⟩ = some (.bool fl) := hcr 0 (by omega)
      have c1 : wr.cell? ⟨bA, oA + k * 7 + 1, none⟩ = some (.string nm) := hcr 1 (by omega)
      have c2 : wr.cell? ⟨bA, oA + k * 7 + 2, none⟩ = some (.int .i64 pl) := hcr 2 (by omega)
      have c3 : wr.cell? ⟨bA, oA + k * 7 + 3, none⟩ = some (.slice ia n1 ic) := hcr 3 (by omega)
      have c4 : wr.cell? ⟨bA, oA + k * 7 + 4, none⟩ = some (.slice oa n2 oc) := hcr 4 (by omega)
      have c5 : wr.cell? ⟨bA, oA + k * 7 + 5, none⟩ = some (.slice va n3 vc) := hcr 5 (by omega)
      have c6 : wr.cell? ⟨bA, oA + k * 7 + 6, none⟩ = some (.slice qa n4 qc) := hcr 6 (by omega)
      have hbl : bA < wr.heap.size := World.block_lt_of_cell? wr ⟨bA, oA + k * 7, none⟩ c0
      have HWa : Hid (Writes W b (s ++ (ts.take k).flatten) (wr.alloc (.cells #[.bool fl, .string nm, .int .i64 pl, .slice ia n1 ic, .slice oa n2 oc, .slice va n3 vc, .slice qa n4 qc] 37))) := HWr.out.alloc _
      clear hrow hcr hx hkl hkt hn1 hn2 hn3 hn4
      go_wp2_with fail
      refine (CX0 _ _ HWa.out HRk.out).mono ?_
      rintro x w3 ⟨rfl, hw3, hk3⟩
      have HW3 : Hid (Writes W b (s ++ (ts.take (k + 1)).flatten) w3) := by rw [Hid, HF.out, ← List.append_assoc]; exact hw3
      have HB3 : Hid (Keeps b w w3) := HBr.out.trans (((Keeps.refl _ _).alloc _).trans hk3)
      clear hw3 hk3 c0 c1 c2 c3 c4 c5 c6 hbl HWa
      go_wp2_with fail
      go_roundw
      case rel => exact ⟨k + 1, by omega, by go_num, HW3, HB3⟩
      case measure => simp [intOf]; omega
    · obtain rfl : k = n := by omega
      have HWE : Hid (Writes W b (s ++ ts.flatten) wr) := by have := HWr.out; rw [← HLen.out, List.take_length] at this; exact this
      go_wp2_with fail
      go_end0
      exact ⟨rfl, by rw [HT.out]; exact HWE.out, HBr.out⟩
set_option maxRecDepth 100000 in
set_option maxHeartbeats 3200000 in
theorem program_prog (l : List Nd) (a : Option Addr) (cap : Nat) (hg : Goods l) (hm : ∀ n ∈ l, n.nums) (w : World) (hl : Lie w a l) (ht : HasTab w) (hpow : HasPow w) (htw : HasTwos w) (hng : 6 ≤ w.heap.size) :
    Calls Tryd.prog 5 #[.agg #[.slice a l.length cap]] w fun x w' => x = .returned (.tuple #[.string (progOut l).1, .int .i64 (progOut l).2]) ∧ Below w.heap.size w w' := by
  obtain ⟨W, hW⟩ : ∃ W, W = w.alloc (.cells #[.slice a l.length cap] 25) := ⟨_, rfl⟩
  have hs : W.heap.size = w.heap.size + 1 := by rw [hW]; simp
  have hb : Below w.heap.size w W := by rw [hW]; exact (Below.refl _ _).alloc (Nat.le_refl _) _
  have hbx : W.heap[w.heap.size]? = some (.cells #[.slice a l.length cap] 25 (0, 0)) := by rw [hW]; exact heap_at rfl
  have CM := may_prog l a cap hg W (hl.below hb) (ht.below hb)
  have HO : Hid (progOut l = if mayOf l = 0 then outOf (ndsText l) else (⟨#[]⟩, mayOf l)) := rfl
  have CT : mayOf l = 0 → ∀ w', Below W.heap.size W w' → Calls Tryd.prog 10 #[.func (.func 11) #[] #[.pointer (some ⟨w.heap.size, 0, none⟩)]] w' fun x w'' => x = .returned (.tuple #[.string (outOf (ndsText l)).1, .int .i64 (outOf (ndsText l)).2]) ∧ Below w'.heap.size w' w'' := fun hm0 w' hb' => by
    obtain ⟨m1, m2, m3⟩ := may_ok hm0
    have hlen := nds_len (l := l) fun n hn => ⟨(m3 n hn).1, (m3 n hn).2, hm n hn, hg.1 n hn⟩
    have h64 : l.length * 153000 ≤ 64 * 153000 := Nat.mul_le_mul_right _ m1
    have hall : Below w.heap.size w w' := hb.trans (hb'.mono (by omega))
    have hsz : w.heap.size + 1 ≤ w'.heap.size := by have := hb'.size; omega
    have hlie := hl.below hall
    refine text_calls _ _ (ndsText l) w' (by omega) (enters_of Tryd.func11 (by kernel_rfl) rfl) fun b w1 hw1 hbe => ?_
    have hbx1 : w1.heap[w.heap.size]? = some (.cells #[.slice a l.length cap] 25 (0, 0)) := by
      rw [hw1.bel.block _ (by omega), hb'.block _ (by omega)]
      exact hbx
    refine (program1_calls l a cap hlie.1 (by omega) (fun n hn s w hw hr => putNode_all (hpow.below hall (by omega)) (htw.below hall (by omega)) (by omega) n (hlie.2 n hn) (hg.1 n hn) (hm n hn) (m3 n hn).2 s w hw hr) hbx1 hw1 (by simp only [room, List.length_nil]; omega)).mono ?_
    rintro x w2 ⟨rfl, h1, -⟩
    exact ⟨rfl, by simpa using h1⟩
  have HCT : Hid _ := CT
  have HW0 : Hid _ := hW
  have HS : Hid _ := hs
  have HB : Hid _ := hb
  clear CT hW hs hb hbx hl ht hpow htw hng hg hm
  generalize outOf (ndsText l) = out at *
  generalize progOut l = res at *
  generalize mayOf l = om at *
  generalize l.length = n at *
  go_enter Tryd.func5, Tryd.ntmps5
  go_wp2_with fail
  rw [← HW0.out]
  refine CM.mono ?_
  rintro x w1 ⟨rfl, hb1⟩
  have HB1 : Hid _ := hb1
  clear CM hb1
  by_cases hm : om = 0
  · have HO1 : Hid (res = out) := by rw [Hid, HO.out, if_pos hm]
    have C2 := HCT.out hm w1 HB1.out
    subst hm
    go_wp2_with fail
    refine C2.mono ?_
    rintro x w2 ⟨rfl, hb2⟩
    have HB2 : Hid _ := hb2
    clear C2 hb2
    go_wp2_with fail
    go_ret2
    exact ⟨by rw [HO1.out]; rfl, HB.out.trans ((HB1.out.trans (HB2.out.mono HB1.out.size)).mono (by have := HS.out; omega))⟩
  · have HO1 : Hid (res = (⟨#[]⟩, om)) := by rw [Hid, HO.out, if_neg hm]
    have hm2 : (om == 0) = false := beq_false_of_ne hm
    go_wp2_with fail
    go_ret2
    exact ⟨by rw [HO1.out]; rfl, HB.out.trans (HB1.out.mono (by have := HS.out; omega))⟩
end Go.Proofs.YtbahpbinilnfoaaDoor
