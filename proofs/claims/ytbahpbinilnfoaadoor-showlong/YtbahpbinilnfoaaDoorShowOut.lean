/- The program's putAt. -/
import Derived.Test.YtbahpbinilnfoaaDoorShowKit
import Derived.Test.YtbahpbinilnfoaaDoorShowStrong
namespace Go.Proofs.YtbahpbinilnfoaaDoor
open Go.RowKit
open Ex.size Ex.depth Ex.lies Ex.bulk Ex.good Ex.shape Ex.text
attribute [local go_sem] later_size later_cell later_frozen later_setCell later_drew later_drewN later_tape drewN_setCell drewN_alloc drewN_later later_later lt_more lt_more1 lt_more2 lt_more3 lt_more4 lk0_0_1 lk1_0_1 lk2_0_1 lk0_0_2 lk1_0_2 lk2_0_2 lk0_1_2 lk0_0_3 lk1_0_3 lk2_0_3 lk0_1_3 lk0_2_3 lk0_0_4 lk1_0_4 lk2_0_4 lk0_1_4 lk0_2_4 lk0_3_4 lk0_0_5 lk1_0_5 lk2_0_5 lk0_1_5 lk0_2_5 lk0_3_5 lk0_4_5 lk0_0_6 lk1_0_6 lk2_0_6 lk0_1_6 lk0_2_6 lk0_3_6 lk0_4_6 lk0_5_6 lk0_0_7 lk1_0_7 lk2_0_7 lk0_1_7 lk0_2_7 lk0_3_7 lk0_4_7 lk0_5_7 lk0_6_7
set_option maxRecDepth 100000 in
set_option maxHeartbeats 3200000 in
theorem putAt_calls {W : World} {b : Nat} {e : Ex} (hp : PutsExpr W b e) (h0 : 1 ≤ e.kd) (h1 : e.kd ≤ 26) (n : Int) (hn : 0 ≤ n ∧ n ≤ 100) : PutsAt W b e n := by
  intro s w hw hr
  obtain ⟨W0, hW0⟩ : ∃ W0 : World, W0 = w.alloc (.cells e.cells.toArray 41) := ⟨_, rfl⟩
  have HS0 : Hid (W0.heap.size = w.heap.size + 1) := by rw [Hid, hW0]; simp
  have hbx : W0.heap[w.heap.size]? = some (.cells e.cells.toArray 41 (0, 0)) := by rw [hW0]; exact heap_at rfl
  have hw0 : Writes W b s W0 := by rw [hW0]; exact hw.alloc _
  have hk0 : Keeps b w W0 := by rw [hW0]; exact (Keeps.refl _ _).alloc _
  have CS : ∀ w, Calls Tryd.prog 62 #[.int .u8 e.kd] w fun x w' => x = .returned (.int .i64 (strong e.kd)) ∧ w' = w := fun w => strength_calls e.kd h0 h1 w
  have hz := strong_pos e.kd
  have hz2 : strong e.kd ≤ 10 := by unfold strong; repeat' split
                                    all_goals omega
  have HPar : Hid (par n (e.kd, e.text) = if strong e.kd < n then 40 :: (e.text ++ [41]) else e.text) := rfl
  generalize par n (e.kd, e.text) = pt at *
  have HNe : Hid (w.heap.size ≠ b) := by have := hw.lt; rw [Hid]; omega
  have HC : Hid (PutsExpr W b e) := hp
  obtain ⟨T, hT⟩ : ∃ T, T = e.text := ⟨_, rfl⟩
  rw [← hT] at HPar
  have HT : Hid _ := hT
  obtain ⟨kd, pl, nm, it, dn, a, cap, l⟩ := e
  simp only at CS hz hz2 HPar
  generalize strong kd = z at *
  have HBx : Hid _ := hbx
  have HW0 : Hid (Writes W b s W0) := hw0
  have HK0 : Hid _ := hk0
  have HR : Hid _ := hr
  have HE0 : Hid _ := hW0
  have HLT : Hid (b < w.heap.size) := hw.lt
  clear hT hp hbx hw0 hk0 hr hW0 hw h0 h1
  obtain ⟨hn0, hn1⟩ := hn
  simp only [Ex.val, Ex.cells, List.toArray, pv] at *
  have CC : ∀ s w, Writes W b s w → room s T → Calls Tryd.prog 25 #[.func (.func 19) #[] #[.pointer (some ⟨b, 0, none⟩)], .agg #[.int .u8 kd, .int .i64 pl, .string nm, .int .i64 it, .int .i64 dn, .slice a l.length cap]] w fun x w' => x = .returned (.tuple #[]) ∧ Writes W b (s ++ T) w' ∧ Keeps b w w' := by rw [HT.out]; exact HC.out
  have HB0 : Hid (Keeps b W0 W0) := Keeps.refl _ _
  by_cases hlt : z < n
  · have HRR : Hid (room s ([40] ++ (T ++ [41]))) := by have := HR.out; rw [HPar.out, if_pos hlt] at this; exact this
    go_enter Tryd.func44, Tryd.ntmps44
    go_wp2_with fail
    refine (CS _).mono ?_
    rintro x w1 ⟨rfl, rfl⟩
    clear CS
    go_wp2_with fail
    rw [← HE0.out]
    refine (put_text [⟨#[40]⟩] _ _ (t := [40]) rfl (HW0.out.alloc _) (heap_at (by have := HS0.out; omega)) (by have := HLT.out; omega) (by simp) ((room_app HRR.out).1)).mono ?_
    rintro x w1 ⟨rfl, hw1, hk1⟩
    have HW1 : Hid (Writes W b (s ++ [40]) w1) := hw1
    have HB1 : Hid (Keeps b W0 w1) := HB0.out.trans (((Keeps.refl _ _).alloc _).trans hk1)
    clear hw1 hk1
    have six := six_box (e := .mk kd pl nm it dn a cap l) (HB1.out.block HBx.out HNe.out (by decide))
    have c0 : w1.cell? ⟨w.heap.size, 0, none⟩ = some (.int .u8 kd) := six 0 (by omega)
    have c1 : w1.cell? ⟨w.heap.size, 1, none⟩ = some (.int .i64 pl) := six 1 (by omega)
    have c2 : w1.cell? ⟨w.heap.size, 2, none⟩ = some (.string nm) := six 2 (by omega)
    have c3 : w1.cell? ⟨w.heap.size, 3, none⟩ = some (.int .i64 it) := six 3 (by omega)
    have c4 : w1.cell? ⟨w.heap.size, 4, none⟩ = some (.int .i64 dn) := six 4 (by omega)
    have c5 : w1.cell? ⟨w.heap.size, 5, none⟩ = some (.slice a l.length cap) := six 5 (by omega)
    clear six
    go_wp2_with fail
    refine (CC _ _ HW1.out ((room_app (room_app HRR.out).2).1)).mono ?_
    rintro x w2 ⟨rfl, hw2, hk2⟩
    have HW2 : Hid (Writes W b ((s ++ [40]) ++ T) w2) := hw2
    have HB2 : Hid (Keeps b W0 w2) := HB1.out.trans (hk2)
    clear hw2 hk2
    clear c0 c1 c2 c3 c4 c5
    go_wp2_with fail
    refine (put_text [⟨#[41]⟩] _ _ (t := [41]) rfl (HW2.out.alloc _) (heap_at (by rfl)) (by have := HW2.out.lt; omega) (by simp) ((room_app (room_app HRR.out).2).2)).mono ?_
    rintro x w3 ⟨rfl, hw3, hk3⟩
    have HW3 : Hid (Writes W b (((s ++ [40]) ++ T) ++ [41]) w3) := hw3
    have HB3 : Hid (Keeps b W0 w3) := HB2.out.trans (((Keeps.refl _ _).alloc _).trans hk3)
    clear hw3 hk3
    go_wp2_with fail
    go_end0
    exact ⟨rfl, by rw [HPar.out, if_pos hlt]; simpa using HW3.out, HK0.out.trans HB3.out⟩
  · have HPt : Hid (pt = T) := by rw [Hid, HPar.out, if_neg hlt]
    have HRR : Hid (room s T) := by have := HR.out; rw [HPt.out] at this; exact this
    go_enter Tryd.func44, Tryd.ntmps44
    go_wp2_with fail
    refine (CS _).mono ?_
    rintro x w1 ⟨rfl, rfl⟩
    clear CS
    go_wp2_with fail
    rw [← HE0.out]
    refine (CC _ _ HW0.out (HRR.out)).mono ?_
    rintro x w1 ⟨rfl, hw1, hk1⟩
    have HW1 : Hid (Writes W b (s ++ T) w1) := hw1
    have HB1 : Hid (Keeps b W0 w1) := HB0.out.trans (hk1)
    clear hw1 hk1
    go_wp2_with fail
    refine bodyPost_ret (results_none rfl _ _ _) rfl ?_
    exact ⟨rfl, by rw [HPt.out]; exact HW1.out, HK0.out.trans HB1.out⟩
end Go.Proofs.YtbahpbinilnfoaaDoor
/- The program's putCall. -/
namespace Go.Proofs.YtbahpbinilnfoaaDoor
open Go.RowKit
open Ex.size Ex.depth Ex.lies Ex.bulk Ex.good Ex.shape Ex.text
attribute [local go_sem] later_size later_cell later_frozen later_setCell later_drew later_drewN later_tape drewN_setCell drewN_alloc drewN_later later_later lt_more lt_more1 lt_more2 lt_more3 lt_more4 lk0_0_1 lk1_0_1 lk2_0_1 lk0_0_2 lk1_0_2 lk2_0_2 lk0_1_2 lk0_0_3 lk1_0_3 lk2_0_3 lk0_1_3 lk0_2_3 lk0_0_4 lk1_0_4 lk2_0_4 lk0_1_4 lk0_2_4 lk0_3_4 lk0_0_5 lk1_0_5 lk2_0_5 lk0_1_5 lk0_2_5 lk0_3_5 lk0_4_5 lk0_0_6 lk1_0_6 lk2_0_6 lk0_1_6 lk0_2_6 lk0_3_6 lk0_4_6 lk0_5_6 lk0_0_7 lk1_0_7 lk2_0_7 lk0_1_7 lk0_2_7 lk0_3_7 lk0_4_7 lk0_5_7 lk0_6_7
theorem between_prefix (sep : List UInt8) (l : List (List UInt8)) (k : Nat) : ∃ u, between sep l = between sep (l.take k) ++ u := by
  cases l with
  | nil => exact ⟨[], by simp [between]⟩
  | cons x r =>
    cases k with
    | zero => exact ⟨between sep (x :: r), by simp [between]⟩
    | succ k =>
      refine ⟨rests sep (r.drop k), ?_⟩
      rw [List.take_succ_cons, between, between, List.append_assoc, ← rests_app, List.take_append_drop]
theorem room_between {s sep : List UInt8} {l : List (List UInt8)} {u : List UInt8} (h : room s (between sep l ++ u)) (k : Nat) (hk : k < l.length) : room (s ++ between sep (l.take k)) ((if 0 < k then sep else []) ++ l[k]) := by
  obtain ⟨v, hv⟩ := between_prefix sep l (k + 1)
  have h1 := between_at sep l k hk
  have h2 := congrArg List.length hv
  have h3 := congrArg List.length h1
  simp only [room, List.length_append] at *
  omega
set_option maxRecDepth 100000 in
set_option maxHeartbeats 3200000 in
theorem putCall_calls {W : World} {b : Nat} {pl it dn : Int} {nm : ByteArray} {a : Option Addr} {cap : Nat} {l : List Ex} (hl : Ex.lies W (.mk 4 pl nm it dn a cap l)) (hn : l.length ≤ 1048576) (ih : ∀ x ∈ l, PutsExpr W b x) (s : List UInt8) (w : World) (hw : Writes W b s w) (hr : room s (Ex.text (.mk 4 pl nm it dn a cap l))) :
    Calls Tryd.prog 41 #[pv b, Ex.val (.mk 4 pl nm it dn a cap l)] w fun r w' => r = .returned (.tuple #[]) ∧ Writes W b (s ++ Ex.text (.mk 4 pl nm it dn a cap l)) w' ∧ Keeps b w w' := by
  obtain ⟨bA, oA, hla, hlie⟩ := hl
  obtain ⟨ts, hts⟩ : ∃ ts, ts = l.map Ex.text := ⟨_, rfl⟩
  have HTS : Hid _ := hts
  have HT : Hid (Ex.text (.mk 4 pl nm it dn a cap l) = (nm.data.toList ++ [40]) ++ (between [44, 32] ts ++ [41])) := by rw [Hid, text_4, ← hts]; simp
  have HR : Hid (room s ((nm.data.toList ++ [40]) ++ (between [44, 32] ts ++ [41]))) := by rw [Hid, ← HT.out]; exact hr
  generalize Ex.text (.mk 4 pl nm it dn a cap l) = pt at *
  obtain ⟨n, hn2⟩ : ∃ n, n = l.length := ⟨_, rfl⟩
  have HN : Hid (n = l.length) := hn2
  have HLen : Hid (ts.length = n) := by rw [Hid, hts, List.length_map, hn2]
  have HIH : Hid _ := ih
  have HLA : Hid _ := hla
  have HLie : Hid _ := hlie
  simp only [Ex.val, Ex.cells, List.toArray, pv] at *
  rw [← hn2] at hn ⊢
  obtain ⟨W0, hW0⟩ : ∃ W0 : World, W0 = w.alloc (.cells #[.int .u8 4, .int .i64 pl, .string nm, .int .i64 it, .int .i64 dn, .slice a n cap] 41) := ⟨_, rfl⟩
  have HS0 : Hid (W0.heap.size = w.heap.size + 1) := by rw [Hid, hW0]; simp
  have HBx : Hid (W0.heap[w.heap.size]? = some (.cells #[.int .u8 4, .int .i64 pl, .string nm, .int .i64 it, .int .i64 dn, .slice a n cap] 41 (0, 0))) := by rw [Hid, hW0]; exact heap_at rfl
  have HW0 : Hid (Writes W b s W0) := by rw [Hid, hW0]; exact hw.alloc _
  have HK0 : Hid (Keeps b w W0) := by rw [Hid, hW0]; exact (Keeps.refl _ _).alloc _
  have HLT : Hid (b < w.heap.size) := hw.lt
  have HNe : Hid (w.heap.size ≠ b) := by have := HLT.out; rw [Hid]; omega
  have HE0 : Hid _ := hW0
  clear hW0 hw hts hn2 hr hla hlie ih
  go_enter Tryd.func41, Tryd.ntmps41
  go_wp2_with fail
  rw [← HE0.out]
  refine (put_new [nm, ⟨#[40]⟩] _ _ (t := nm.data.toList ++ [40]) (by simp [flat]) (by have := HS0.out; omega) HW0.out (by simp) (room_app HR.out).1).mono ?_
  rintro x w1 ⟨rfl, hw1, hk1⟩
  have HW1 : Hid (Writes W b (s ++ (nm.data.toList ++ [40])) w1) := hw1
  have HB1 : Hid (Keeps b W0 w1) := hk1
  have c5 : w1.cell? ⟨w.heap.size, 5, none⟩ = some (.slice a n cap) := by rw [cell_of_row (HB1.out.block HBx.out HNe.out (by decide))]; rfl
  clear hw1 hk1
  have HR1 : Hid (room (s ++ (nm.data.toList ++ [40])) (between [44, 32] ts ++ [41])) := (room_app HR.out).2
  go_wp2_with fail
  go_loopw [14] (fun i wr => ∃ k : Nat, k ≤ n ∧ i = .int .i64 k ∧ Hid (Writes W b ((s ++ (nm.data.toList ++ [40])) ++ between [44, 32] (ts.take k)) wr) ∧ Hid (Keeps b W0 wr)) (fun i _ => n - (intOf i).toNat)
  case atStart => exact ⟨0, by omega, rfl, by simpa [Hid, between] using HW1.out, HB1⟩
  case round =>
    obtain ⟨k, hk, rfl, HWr, HBr⟩ := hrel
    by_cases hlt : k < n
    · have hkl : k < l.length := by rw [← HN.out]; exact hlt
      have hkt : k < ts.length := by rw [HLen.out]; exact hlt
      obtain rfl := HLA.out (by intro h; rw [h] at hkl; simp at hkl)
      obtain ⟨hc, hli⟩ := lieAt_get l oA k HLie.out hkl
      have hcr := six_old HWr.out.bel hc
      have HF : Hid (between [44, 32] (ts.take (k + 1)) = between [44, 32] (ts.take k) ++ (if 0 < k then [44, 32] else []) ++ ts[k]) := between_at _ _ _ hkt
      have HRk : Hid (room ((s ++ (nm.data.toList ++ [40])) ++ between [44, 32] (ts.take k)) ((if 0 < k then [44, 32] else []) ++ ts[k])) := room_between HR1.out k hkt
      have hx : ts[k] = l[k].text := by simp [HTS.out]
      have CX0 := HIH.out l[k] (List.getElem_mem hkl)
      unfold PutsExpr at CX0
      rw [← hx] at CX0
      generalize ts[k] = tx at *
      generalize l[k] = x at *
      obtain ⟨kx, px, nx, ix, dx, ax, cx, ls⟩ := x
      obtain ⟨lx, hlx⟩ : ∃ lx, lx = ls.length := ⟨_, rfl⟩
      simp only [Ex.val, Ex.cells, List.toArray, pv, ← hlx] at CX0 hcr
      have c0 : wr.cell? ⟨bA, oA + k * 6, none⟩ = some (.int .u8 kx) := hcr 0 (by omega)
      have c1 : wr.cell? ⟨bA, oA + k * 6 + 1, none⟩ = some (.int .i64 px) := hcr 1 (by omega)
      have c2 : wr.cell? ⟨bA, oA + k * 6 + 2, none⟩ = some (.string nx) := hcr 2 (by omega)
      have c3 : wr.cell? ⟨bA, oA + k * 6 + 3, none⟩ = some (.int .i64 ix) := hcr 3 (by omega)
      have c4 : wr.cell? ⟨bA, oA + k * 6 + 4, none⟩ = some (.int .i64 dx) := hcr 4 (by omega)
      have c5 : wr.cell? ⟨bA, oA + k * 6 + 5, none⟩ = some (.slice ax lx cx) := hcr 5 (by omega)
      have hbl : bA < wr.heap.size := World.block_lt_of_cell? wr ⟨bA, oA + k * 6, none⟩ c0
      obtain ⟨W1, hW1⟩ : ∃ W1 : World, W1 = wr.alloc (.cells #[.int .u8 kx, .int .i64 px, .string nx, .int .i64 ix, .int .i64 dx, .slice ax lx cx] 41) := ⟨_, rfl⟩
      have HS1 : Hid (W1.heap.size = wr.heap.size + 1) := by rw [Hid, hW1]; simp
      have HBy : Hid (W1.heap[wr.heap.size]? = some (.cells #[.int .u8 kx, .int .i64 px, .string nx, .int .i64 ix, .int .i64 dx, .slice ax lx cx] 41 (0, 0))) := by rw [Hid, hW1]; exact heap_at rfl
      have HWa : Hid (Writes W b ((s ++ (nm.data.toList ++ [40])) ++ between [44, 32] (ts.take k)) W1) := by rw [Hid, hW1]; exact HWr.out.alloc _
      have HBa : Hid (Keeps b W0 W1) := by rw [Hid, hW1]; exact HBr.out.alloc _
      have HNy : Hid (wr.heap.size ≠ b) := by have := HWr.out.lt; rw [Hid]; omega
      have HE1 : Hid _ := hW1
      clear hW1 hc hli hcr hx hlx hkl hkt
      by_cases h0 : 0 < k
      · have HF1 : Hid (between [44, 32] (ts.take (k + 1)) = between [44, 32] (ts.take k) ++ ([44, 32] ++ tx)) := by rw [Hid, HF.out, if_pos h0, List.append_assoc]
        have HR2 : Hid (room ((s ++ (nm.data.toList ++ [40])) ++ between [44, 32] (ts.take k)) ([44, 32] ++ tx)) := by have := HRk.out; rw [if_pos h0] at this; exact this
        go_wp2_with fail
        rw [← HE1.out]
        refine (put_new [⟨#[44, 32]⟩] _ _ (t := [44, 32]) rfl (by have := HS1.out; omega) HWa.out (by simp) (room_app HR2.out).1).mono ?_
        rintro x w2 ⟨rfl, hw2, hk2⟩
        have HW2 : Hid (Writes W b (((s ++ (nm.data.toList ++ [40])) ++ between [44, 32] (ts.take k)) ++ [44, 32]) w2) := hw2
        have HB2 : Hid (Keeps b W0 w2) := HBa.out.trans hk2
        have bx := hk2.block HBy.out HNy.out (by decide)
        have d0 : w2.cell? ⟨wr.heap.size, 0, none⟩ = some (.int .u8 kx) := by rw [cell_of_row bx]; rfl
        have d1 : w2.cell? ⟨wr.heap.size, 1, none⟩ = some (.int .i64 px) := by rw [cell_of_row bx]; rfl
        have d2 : w2.cell? ⟨wr.heap.size, 2, none⟩ = some (.string nx) := by rw [cell_of_row bx]; rfl
        have d3 : w2.cell? ⟨wr.heap.size, 3, none⟩ = some (.int .i64 ix) := by rw [cell_of_row bx]; rfl
        have d4 : w2.cell? ⟨wr.heap.size, 4, none⟩ = some (.int .i64 dx) := by rw [cell_of_row bx]; rfl
        have d5 : w2.cell? ⟨wr.heap.size, 5, none⟩ = some (.slice ax lx cx) := by rw [cell_of_row bx]; rfl
        clear hw2 hk2 bx c0 c1 c2 c3 c4 c5 hbl
        go_wp2_with fail
        refine (CX0 _ _ HW2.out (room_app HR2.out).2).mono ?_
        rintro x w3 ⟨rfl, hw3, hk3⟩
        have HW3 : Hid (Writes W b ((s ++ (nm.data.toList ++ [40])) ++ between [44, 32] (ts.take (k + 1))) w3) := by rw [Hid, HF1.out]; simpa using hw3
        have HB3 : Hid (Keeps b W0 w3) := HB2.out.trans hk3
        clear hw3 hk3 d0 d1 d2 d3 d4 d5
        go_wp2_with fail
        go_roundw
        case rel => exact ⟨k + 1, by omega, by go_num, HW3, HB3⟩
        case measure => simp [intOf]; omega
      · obtain rfl : k = 0 := by omega
        have HF1 : Hid (between [44, 32] (ts.take (0 + 1)) = between [44, 32] (ts.take 0) ++ tx) := by rw [Hid, HF.out, if_neg h0, List.append_nil]
        have HR2 : Hid (room ((s ++ (nm.data.toList ++ [40])) ++ between [44, 32] (ts.take 0)) tx) := by have := HRk.out; rw [if_neg h0] at this; exact this
        clear h0
        simp only [Nat.zero_mul, Nat.add_zero] at c0 c1 c2 c3 c4 c5
        go_wp2_with fail
        rw [← HE1.out]
        refine (CX0 _ _ HWa.out HR2.out).mono ?_
        rintro x w3 ⟨rfl, hw3, hk3⟩
        have HW3 : Hid (Writes W b ((s ++ (nm.data.toList ++ [40])) ++ between [44, 32] (ts.take (0 + 1))) w3) := by rw [Hid, HF1.out]; simpa using hw3
        have HB3 : Hid (Keeps b W0 w3) := HBa.out.trans hk3
        clear hw3 hk3 c0 c1 c2 c3 c4 c5 hbl
        go_wp2_with fail
        go_roundw
        case rel => exact ⟨1, by omega, by go_num, HW3, HB3⟩
        case measure => simp [intOf]; omega
    · obtain rfl : k = n := by omega
      have HWE : Hid (Writes W b ((s ++ (nm.data.toList ++ [40])) ++ between [44, 32] ts) wr) := by have := HWr.out; rw [← HLen.out, List.take_length] at this; exact this
      have HRE : Hid (room ((s ++ (nm.data.toList ++ [40])) ++ between [44, 32] ts) [41]) := (room_app HR1.out).2
      clear c5
      go_wp2_with fail
      refine (put_new [⟨#[41]⟩] _ _ (t := [41]) rfl (by rfl) HWE.out (by simp) HRE.out).mono ?_
      rintro x w4 ⟨rfl, hw4, hk4⟩
      have HW4 : Hid (Writes W b (((s ++ (nm.data.toList ++ [40])) ++ between [44, 32] ts) ++ [41]) w4) := hw4
      have HB4 : Hid (Keeps b W0 w4) := HBr.out.trans hk4
      clear hw4 hk4
      go_wp2_with fail
      go_end0
      exact ⟨rfl, by rw [HT.out]; simpa using HW4.out, HK0.out.trans HB4.out⟩
end Go.Proofs.YtbahpbinilnfoaaDoor
/- The program's putAhead. -/
namespace Go.Proofs.YtbahpbinilnfoaaDoor
open Go.RowKit
open Ex.size Ex.depth Ex.lies Ex.bulk Ex.good Ex.shape Ex.text
attribute [local go_sem] later_size later_cell later_frozen later_setCell later_drew later_drewN later_tape drewN_setCell drewN_alloc drewN_later later_later lt_more lt_more1 lt_more2 lt_more3 lt_more4 lk0_0_1 lk1_0_1 lk2_0_1 lk0_0_2 lk1_0_2 lk2_0_2 lk0_1_2 lk0_0_3 lk1_0_3 lk2_0_3 lk0_1_3 lk0_2_3 lk0_0_4 lk1_0_4 lk2_0_4 lk0_1_4 lk0_2_4 lk0_3_4 lk0_0_5 lk1_0_5 lk2_0_5 lk0_1_5 lk0_2_5 lk0_3_5 lk0_4_5 lk0_0_6 lk1_0_6 lk2_0_6 lk0_1_6 lk0_2_6 lk0_3_6 lk0_4_6 lk0_5_6 lk0_0_7 lk1_0_7 lk2_0_7 lk0_1_7 lk0_2_7 lk0_3_7 lk0_4_7 lk0_5_7 lk0_6_7
/-- What an expression with one Arg has in memory: its Arg. -/
theorem lone_lies {W : World} {kd pl it dn : Int} {nm : ByteArray} {a : Option Addr} {cap : Nat} {x : Ex} (h : Ex.lies W (.mk kd pl nm it dn a cap [x])) : ∃ bA oA, a = some ⟨bA, oA, none⟩ ∧ (∀ j, j < 6 → W.cell? ⟨bA, oA + j, none⟩ = x.cells[j]?) ∧ bA < W.heap.size := by
  obtain ⟨bA, oA, h1, h2⟩ := h
  obtain rfl := h1 (by simp)
  have h3 := h2.1
  refine ⟨bA, oA, rfl, h3, ?_⟩
  have h0 := h3 0 (by omega)
  cases x
  exact World.block_lt_of_cell? W ⟨bA, oA + 0, none⟩ h0
set_option maxRecDepth 100000 in
set_option maxHeartbeats 3200000 in
theorem putAhead_6 {W : World} {b : Nat} {pl it dn : Int} {nm : ByteArray} {a : Option Addr} {cap : Nat} {x : Ex} (hl : Ex.lies W (.mk 6 pl nm it dn a cap [x])) (hp : PutsAt W b x 4) (s : List UInt8) (w : World) (hw : Writes W b s w) (hr : room s (Ex.text (.mk 6 pl nm it dn a cap [x]))) :
    Calls Tryd.prog 42 #[pv b, Ex.val (.mk 6 pl nm it dn a cap [x])] w fun r w' => r = .returned (.tuple #[]) ∧ Writes W b (s ++ Ex.text (.mk 6 pl nm it dn a cap [x])) w' ∧ Keeps b w w' := by
  obtain ⟨bA, oA, rfl, hc, hlt⟩ := lone_lies hl
  obtain ⟨P, hP⟩ : ∃ P, P = par 4 (x.kd, x.text) := ⟨_, rfl⟩
  have HT : Hid (Ex.text (.mk 6 pl nm it dn (some ⟨bA, oA, none⟩) cap [x]) = [110, 111, 116, 32] ++ P) := by rw [Hid, hP]; rfl
  have HR : Hid (room s ([110, 111, 116, 32] ++ P)) := by rw [Hid, ← HT.out]; exact hr
  generalize Ex.text (.mk 6 pl nm it dn (some ⟨bA, oA, none⟩) cap [x]) = pt at *
  have hsix := six_old hw.bel hc
  have CA0 : ∀ s w, Writes W b s w → room s P → Calls Tryd.prog 44 #[pv b, x.val, .int .i64 4] w fun x w' => x = .returned (.tuple #[]) ∧ Writes W b (s ++ P) w' ∧ Keeps b w w' := by rw [hP]; exact hp
  clear hP hp hc hl hr
  obtain ⟨kx, px, nx, ix, dx, ax, cx, ls⟩ := x
  obtain ⟨lx, hlx⟩ : ∃ lx, lx = ls.length := ⟨_, rfl⟩
  simp only [Ex.val, Ex.cells, List.toArray, pv, ← hlx] at *
  have c0 : w.cell? ⟨bA, oA, none⟩ = some (.int .u8 kx) := hsix 0 (by omega)
  have c1 : w.cell? ⟨bA, oA + 1, none⟩ = some (.int .i64 px) := hsix 1 (by omega)
  have c2 : w.cell? ⟨bA, oA + 2, none⟩ = some (.string nx) := hsix 2 (by omega)
  have c3 : w.cell? ⟨bA, oA + 3, none⟩ = some (.int .i64 ix) := hsix 3 (by omega)
  have c4 : w.cell? ⟨bA, oA + 4, none⟩ = some (.int .i64 dx) := hsix 4 (by omega)
  have c5 : w.cell? ⟨bA, oA + 5, none⟩ = some (.slice ax lx cx) := hsix 5 (by omega)
  obtain ⟨W0, hW0⟩ : ∃ W0 : World, W0 = (w.alloc (.cells #[.int .u8 6, .int .i64 pl, .string nm, .int .i64 it, .int .i64 dn, .slice (some ⟨bA, oA, none⟩) 1 cap] 41)).alloc (.cells #[.int .u8 kx, .int .i64 px, .string nx, .int .i64 ix, .int .i64 dx, .slice ax lx cx] 41) := ⟨_, rfl⟩
  have HS0 : Hid (W0.heap.size = w.heap.size + 2) := by rw [Hid, hW0]; simp
  have HBx : Hid (W0.heap[w.heap.size + 1]? = some (.cells #[.int .u8 kx, .int .i64 px, .string nx, .int .i64 ix, .int .i64 dx, .slice ax lx cx] 41 (0, 0))) := by rw [Hid, hW0]; exact heap_at (by simp)
  have HW0 : Hid (Writes W b s W0) := by rw [Hid, hW0]; exact (hw.alloc _).alloc _
  have HK0 : Hid (Keeps b w W0) := by rw [Hid, hW0]; exact ((Keeps.refl _ _).alloc _).alloc _
  have HB0 : Hid (Keeps b W0 W0) := Keeps.refl _ _
  have HLT : Hid (b < w.heap.size) := hw.lt
  have HNe : Hid (w.heap.size + 1 ≠ b) := by have := HLT.out; rw [Hid]; omega
  have HE0 : Hid _ := hW0
  have hltw : bA < w.heap.size := Nat.lt_of_lt_of_le hlt hw.size
  clear hW0 hw hsix hlt
  go_enter Tryd.func42, Tryd.ntmps42
  go_wp2_with fail
  rw [← HE0.out]
  clear c0 c1 c2 c3 c4 c5
  refine (put_text [⟨#[110, 111, 116, 32]⟩] _ _ (t := [110, 111, 116, 32]) rfl (HW0.out.alloc _) (heap_at (by have := HS0.out; omega)) (by have := HLT.out; omega) (by simp) ((room_app HR.out).1)).mono ?_
  rintro x w1 ⟨rfl, hw1, hk1⟩
  have HW1 : Hid (Writes W b (s ++ [110, 111, 116, 32]) w1) := hw1
  have HB1 : Hid (Keeps b W0 w1) := HB0.out.trans (((Keeps.refl _ _).alloc _).trans hk1)
  clear hw1 hk1
  have bx := HB1.out.block HBx.out HNe.out (by decide)
  have c0 : w1.cell? ⟨w.heap.size + 1, 0, none⟩ = some (.int .u8 kx) := by rw [cell_of_row bx]; rfl
  have c1 : w1.cell? ⟨w.heap.size + 1, 1, none⟩ = some (.int .i64 px) := by rw [cell_of_row bx]; rfl
  have c2 : w1.cell? ⟨w.heap.size + 1, 2, none⟩ = some (.string nx) := by rw [cell_of_row bx]; rfl
  have c3 : w1.cell? ⟨w.heap.size + 1, 3, none⟩ = some (.int .i64 ix) := by rw [cell_of_row bx]; rfl
  have c4 : w1.cell? ⟨w.heap.size + 1, 4, none⟩ = some (.int .i64 dx) := by rw [cell_of_row bx]; rfl
  have c5 : w1.cell? ⟨w.heap.size + 1, 5, none⟩ = some (.slice ax lx cx) := by rw [cell_of_row bx]; rfl
  clear bx
  go_wp2_with fail
  refine (CA0 _ _ HW1.out ((room_app HR.out).2)).mono ?_
  rintro x w2 ⟨rfl, hw2, hk2⟩
  have HW2 : Hid (Writes W b ((s ++ [110, 111, 116, 32]) ++ P) w2) := hw2
  have HB2 : Hid (Keeps b W0 w2) := HB1.out.trans (hk2)
  clear hw2 hk2
  clear c0 c1 c2 c3 c4 c5
  go_wp2_with fail
  refine bodyPost_ret (results_none rfl _ _ _) rfl ?_
  exact ⟨rfl, by rw [HT.out]; simpa using HW2.out, HK0.out.trans HB2.out⟩
set_option maxRecDepth 100000 in
set_option maxHeartbeats 3200000 in
theorem putAhead_23 {W : World} {b : Nat} {pl it dn : Int} {nm : ByteArray} {a : Option Addr} {cap : Nat} {x : Ex} (hl : Ex.lies W (.mk 23 pl nm it dn a cap [x])) (hp : PutsAt W b x 8) (s : List UInt8) (w : World) (hw : Writes W b s w) (hr : room s (Ex.text (.mk 23 pl nm it dn a cap [x]))) :
    Calls Tryd.prog 42 #[pv b, Ex.val (.mk 23 pl nm it dn a cap [x])] w fun r w' => r = .returned (.tuple #[]) ∧ Writes W b (s ++ Ex.text (.mk 23 pl nm it dn a cap [x])) w' ∧ Keeps b w w' := by
  obtain ⟨bA, oA, rfl, hc, hlt⟩ := lone_lies hl
  obtain ⟨P, hP⟩ : ∃ P, P = par 8 (x.kd, x.text) := ⟨_, rfl⟩
  have HT : Hid (Ex.text (.mk 23 pl nm it dn (some ⟨bA, oA, none⟩) cap [x]) = [116, 97, 105, 108, 32] ++ P) := by rw [Hid, hP]; rfl
  have HR : Hid (room s ([116, 97, 105, 108, 32] ++ P)) := by rw [Hid, ← HT.out]; exact hr
  generalize Ex.text (.mk 23 pl nm it dn (some ⟨bA, oA, none⟩) cap [x]) = pt at *
  have hsix := six_old hw.bel hc
  have CA0 : ∀ s w, Writes W b s w → room s P → Calls Tryd.prog 44 #[pv b, x.val, .int .i64 8] w fun x w' => x = .returned (.tuple #[]) ∧ Writes W b (s ++ P) w' ∧ Keeps b w w' := by rw [hP]; exact hp
  clear hP hp hc hl hr
  obtain ⟨kx, px, nx, ix, dx, ax, cx, ls⟩ := x
  obtain ⟨lx, hlx⟩ : ∃ lx, lx = ls.length := ⟨_, rfl⟩
  simp only [Ex.val, Ex.cells, List.toArray, pv, ← hlx] at *
  have c0 : w.cell? ⟨bA, oA, none⟩ = some (.int .u8 kx) := hsix 0 (by omega)
  have c1 : w.cell? ⟨bA, oA + 1, none⟩ = some (.int .i64 px) := hsix 1 (by omega)
  have c2 : w.cell? ⟨bA, oA + 2, none⟩ = some (.string nx) := hsix 2 (by omega)
  have c3 : w.cell? ⟨bA, oA + 3, none⟩ = some (.int .i64 ix) := hsix 3 (by omega)
  have c4 : w.cell? ⟨bA, oA + 4, none⟩ = some (.int .i64 dx) := hsix 4 (by omega)
  have c5 : w.cell? ⟨bA, oA + 5, none⟩ = some (.slice ax lx cx) := hsix 5 (by omega)
  obtain ⟨W0, hW0⟩ : ∃ W0 : World, W0 = (w.alloc (.cells #[.int .u8 23, .int .i64 pl, .string nm, .int .i64 it, .int .i64 dn, .slice (some ⟨bA, oA, none⟩) 1 cap] 41)).alloc (.cells #[.int .u8 kx, .int .i64 px, .string nx, .int .i64 ix, .int .i64 dx, .slice ax lx cx] 41) := ⟨_, rfl⟩
  have HS0 : Hid (W0.heap.size = w.heap.size + 2) := by rw [Hid, hW0]; simp
  have HBx : Hid (W0.heap[w.heap.size + 1]? = some (.cells #[.int .u8 kx, .int .i64 px, .string nx, .int .i64 ix, .int .i64 dx, .slice ax lx cx] 41 (0, 0))) := by rw [Hid, hW0]; exact heap_at (by simp)
  have HW0 : Hid (Writes W b s W0) := by rw [Hid, hW0]; exact (hw.alloc _).alloc _
  have HK0 : Hid (Keeps b w W0) := by rw [Hid, hW0]; exact ((Keeps.refl _ _).alloc _).alloc _
  have HB0 : Hid (Keeps b W0 W0) := Keeps.refl _ _
  have HLT : Hid (b < w.heap.size) := hw.lt
  have HNe : Hid (w.heap.size + 1 ≠ b) := by have := HLT.out; rw [Hid]; omega
  have HE0 : Hid _ := hW0
  have hltw : bA < w.heap.size := Nat.lt_of_lt_of_le hlt hw.size
  clear hW0 hw hsix hlt
  go_enter Tryd.func42, Tryd.ntmps42
  go_wp2_with fail
  rw [← HE0.out]
  clear c0 c1 c2 c3 c4 c5
  refine (put_text [⟨#[116, 97, 105, 108, 32]⟩] _ _ (t := [116, 97, 105, 108, 32]) rfl (HW0.out.alloc _) (heap_at (by have := HS0.out; omega)) (by have := HLT.out; omega) (by simp) ((room_app HR.out).1)).mono ?_
  rintro x w1 ⟨rfl, hw1, hk1⟩
  have HW1 : Hid (Writes W b (s ++ [116, 97, 105, 108, 32]) w1) := hw1
  have HB1 : Hid (Keeps b W0 w1) := HB0.out.trans (((Keeps.refl _ _).alloc _).trans hk1)
  clear hw1 hk1
  have bx := HB1.out.block HBx.out HNe.out (by decide)
  have c0 : w1.cell? ⟨w.heap.size + 1, 0, none⟩ = some (.int .u8 kx) := by rw [cell_of_row bx]; rfl
  have c1 : w1.cell? ⟨w.heap.size + 1, 1, none⟩ = some (.int .i64 px) := by rw [cell_of_row bx]; rfl
  have c2 : w1.cell? ⟨w.heap.size + 1, 2, none⟩ = some (.string nx) := by rw [cell_of_row bx]; rfl
  have c3 : w1.cell? ⟨w.heap.size + 1, 3, none⟩ = some (.int .i64 ix) := by rw [cell_of_row bx]; rfl
  have c4 : w1.cell? ⟨w.heap.size + 1, 4, none⟩ = some (.int .i64 dx) := by rw [cell_of_row bx]; rfl
  have c5 : w1.cell? ⟨w.heap.size + 1, 5, none⟩ = some (.slice ax lx cx) := by rw [cell_of_row bx]; rfl
  clear bx
  go_wp2_with fail
  refine (CA0 _ _ HW1.out ((room_app HR.out).2)).mono ?_
  rintro x w2 ⟨rfl, hw2, hk2⟩
  have HW2 : Hid (Writes W b ((s ++ [116, 97, 105, 108, 32]) ++ P) w2) := hw2
  have HB2 : Hid (Keeps b W0 w2) := HB1.out.trans (hk2)
  clear hw2 hk2
  clear c0 c1 c2 c3 c4 c5
  go_wp2_with fail
  go_end0
  exact ⟨rfl, by rw [HT.out]; simpa using HW2.out, HK0.out.trans HB2.out⟩
set_option maxRecDepth 100000 in
set_option maxHeartbeats 3200000 in
theorem putAhead_5 {W : World} {b : Nat} {pl it dn : Int} {nm : ByteArray} {a : Option Addr} {cap : Nat} {x : Ex} (hl : Ex.lies W (.mk 5 pl nm it dn a cap [x])) (hp : PutsAt W b x 8) (h5 : ¬ x.kd = 5) (s : List UInt8) (w : World) (hw : Writes W b s w) (hr : room s (Ex.text (.mk 5 pl nm it dn a cap [x]))) :
    Calls Tryd.prog 42 #[pv b, Ex.val (.mk 5 pl nm it dn a cap [x])] w fun r w' => r = .returned (.tuple #[]) ∧ Writes W b (s ++ Ex.text (.mk 5 pl nm it dn a cap [x])) w' ∧ Keeps b w w' := by
  obtain ⟨bA, oA, rfl, hc, hlt⟩ := lone_lies hl
  obtain ⟨P, hP⟩ : ∃ P, P = par 8 (x.kd, x.text) := ⟨_, rfl⟩
  have HT : Hid (Ex.text (.mk 5 pl nm it dn (some ⟨bA, oA, none⟩) cap [x]) = [45] ++ P) := by rw [Hid, hP]; show [45] ++ (if x.kd = 5 then [32] else []) ++ par 8 (x.kd, x.text) = _; rw [if_neg h5]; simp
  have HR : Hid (room s ([45] ++ P)) := by rw [Hid, ← HT.out]; exact hr
  generalize Ex.text (.mk 5 pl nm it dn (some ⟨bA, oA, none⟩) cap [x]) = pt at *
  have hsix := six_old hw.bel hc
  have CA0 : ∀ s w, Writes W b s w → room s P → Calls Tryd.prog 44 #[pv b, x.val, .int .i64 8] w fun x w' => x = .returned (.tuple #[]) ∧ Writes W b (s ++ P) w' ∧ Keeps b w w' := by rw [hP]; exact hp
  clear hP hp hc hl hr
  obtain ⟨kx, px, nx, ix, dx, ax, cx, ls⟩ := x
  obtain ⟨lx, hlx⟩ : ∃ lx, lx = ls.length := ⟨_, rfl⟩
  simp only [Ex.val, Ex.cells, List.toArray, pv, ← hlx] at *
  have c0 : w.cell? ⟨bA, oA, none⟩ = some (.int .u8 kx) := hsix 0 (by omega)
  have c1 : w.cell? ⟨bA, oA + 1, none⟩ = some (.int .i64 px) := hsix 1 (by omega)
  have c2 : w.cell? ⟨bA, oA + 2, none⟩ = some (.string nx) := hsix 2 (by omega)
  have c3 : w.cell? ⟨bA, oA + 3, none⟩ = some (.int .i64 ix) := hsix 3 (by omega)
  have c4 : w.cell? ⟨bA, oA + 4, none⟩ = some (.int .i64 dx) := hsix 4 (by omega)
  have c5 : w.cell? ⟨bA, oA + 5, none⟩ = some (.slice ax lx cx) := hsix 5 (by omega)
  obtain ⟨W0, hW0⟩ : ∃ W0 : World, W0 = (w.alloc (.cells #[.int .u8 5, .int .i64 pl, .string nm, .int .i64 it, .int .i64 dn, .slice (some ⟨bA, oA, none⟩) 1 cap] 41)).alloc (.cells #[.int .u8 kx, .int .i64 px, .string nx, .int .i64 ix, .int .i64 dx, .slice ax lx cx] 41) := ⟨_, rfl⟩
  have HS0 : Hid (W0.heap.size = w.heap.size + 2) := by rw [Hid, hW0]; simp
  have HBx : Hid (W0.heap[w.heap.size + 1]? = some (.cells #[.int .u8 kx, .int .i64 px, .string nx, .int .i64 ix, .int .i64 dx, .slice ax lx cx] 41 (0, 0))) := by rw [Hid, hW0]; exact heap_at (by simp)
  have HW0 : Hid (Writes W b s W0) := by rw [Hid, hW0]; exact (hw.alloc _).alloc _
  have HK0 : Hid (Keeps b w W0) := by rw [Hid, hW0]; exact ((Keeps.refl _ _).alloc _).alloc _
  have HB0 : Hid (Keeps b W0 W0) := Keeps.refl _ _
  have HLT : Hid (b < w.heap.size) := hw.lt
  have HNe : Hid (w.heap.size + 1 ≠ b) := by have := HLT.out; rw [Hid]; omega
  have HE0 : Hid _ := hW0
  have hltw : bA < w.heap.size := Nat.lt_of_lt_of_le hlt hw.size
  clear hW0 hw hsix hlt
  have h5b : (kx == 5) = false := by simpa using h5
  clear h5
  go_enter Tryd.func42, Tryd.ntmps42
  go_wp2_with fail
  rw [← HE0.out]
  clear c0 c1 c2 c3 c4 c5
  refine (put_text [⟨#[45]⟩] _ _ (t := [45]) rfl (HW0.out.alloc _) (heap_at (by have := HS0.out; omega)) (by have := HLT.out; omega) (by simp) ((room_app HR.out).1)).mono ?_
  rintro x w1 ⟨rfl, hw1, hk1⟩
  have HW1 : Hid (Writes W b (s ++ [45]) w1) := hw1
  have HB1 : Hid (Keeps b W0 w1) := HB0.out.trans (((Keeps.refl _ _).alloc _).trans hk1)
  clear hw1 hk1
  have bx := HB1.out.block HBx.out HNe.out (by decide)
  have c0 : w1.cell? ⟨w.heap.size + 1, 0, none⟩ = some (.int .u8 kx) := by rw [cell_of_row bx]; rfl
  have c1 : w1.cell? ⟨w.heap.size + 1, 1, none⟩ = some (.int .i64 px) := by rw [cell_of_row bx]; rfl
  have c2 : w1.cell? ⟨w.heap.size + 1, 2, none⟩ = some (.string nx) := by rw [cell_of_row bx]; rfl
  have c3 : w1.cell? ⟨w.heap.size + 1, 3, none⟩ = some (.int .i64 ix) := by rw [cell_of_row bx]; rfl
  have c4 : w1.cell? ⟨w.heap.size + 1, 4, none⟩ = some (.int .i64 dx) := by rw [cell_of_row bx]; rfl
  have c5 : w1.cell? ⟨w.heap.size + 1, 5, none⟩ = some (.slice ax lx cx) := by rw [cell_of_row bx]; rfl
  clear bx
  go_wp2_with fail
  refine (CA0 _ _ HW1.out ((room_app HR.out).2)).mono ?_
  rintro x w2 ⟨rfl, hw2, hk2⟩
  have HW2 : Hid (Writes W b ((s ++ [45]) ++ P) w2) := hw2
  have HB2 : Hid (Keeps b W0 w2) := HB1.out.trans (hk2)
  clear hw2 hk2
  clear c0 c1 c2 c3 c4 c5
  go_wp2_with fail
  go_end0
  exact ⟨rfl, by rw [HT.out]; simpa using HW2.out, HK0.out.trans HB2.out⟩
set_option maxRecDepth 100000 in
set_option maxHeartbeats 3200000 in
theorem putAhead_55 {W : World} {b : Nat} {pl it dn : Int} {nm : ByteArray} {a : Option Addr} {cap : Nat} {x : Ex} (hl : Ex.lies W (.mk 5 pl nm it dn a cap [x])) (hp : PutsAt W b x 8) (h5 : x.kd = 5) (s : List UInt8) (w : World) (hw : Writes W b s w) (hr : room s (Ex.text (.mk 5 pl nm it dn a cap [x]))) :
    Calls Tryd.prog 42 #[pv b, Ex.val (.mk 5 pl nm it dn a cap [x])] w fun r w' => r = .returned (.tuple #[]) ∧ Writes W b (s ++ Ex.text (.mk 5 pl nm it dn a cap [x])) w' ∧ Keeps b w w' := by
  obtain ⟨bA, oA, rfl, hc, hlt⟩ := lone_lies hl
  obtain ⟨P, hP⟩ : ∃ P, P = par 8 (x.kd, x.text) := ⟨_, rfl⟩
  have HT : Hid (Ex.text (.mk 5 pl nm it dn (some ⟨bA, oA, none⟩) cap [x]) = [45] ++ ([32] ++ P)) := by rw [Hid, hP]; show [45] ++ (if x.kd = 5 then [32] else []) ++ par 8 (x.kd, x.text) = _; rw [if_pos h5]; simp
  have HR : Hid (room s ([45] ++ ([32] ++ P))) := by rw [Hid, ← HT.out]; exact hr
  generalize Ex.text (.mk 5 pl nm it dn (some ⟨bA, oA, none⟩) cap [x]) = pt at *
  have hsix := six_old hw.bel hc
  have CA0 : ∀ s w, Writes W b s w → room s P → Calls Tryd.prog 44 #[pv b, x.val, .int .i64 8] w fun x w' => x = .returned (.tuple #[]) ∧ Writes W b (s ++ P) w' ∧ Keeps b w w' := by rw [hP]; exact hp
  clear hP hp hc hl hr
  obtain ⟨kx, px, nx, ix, dx, ax, cx, ls⟩ := x
  obtain ⟨lx, hlx⟩ : ∃ lx, lx = ls.length := ⟨_, rfl⟩
  simp only [Ex.val, Ex.cells, List.toArray, pv, ← hlx] at *
  have c0 : w.cell? ⟨bA, oA, none⟩ = some (.int .u8 kx) := hsix 0 (by omega)
  have c1 : w.cell? ⟨bA, oA + 1, none⟩ = some (.int .i64 px) := hsix 1 (by omega)
  have c2 : w.cell? ⟨bA, oA + 2, none⟩ = some (.string nx) := hsix 2 (by omega)
  have c3 : w.cell? ⟨bA, oA + 3, none⟩ = some (.int .i64 ix) := hsix 3 (by omega)
  have c4 : w.cell? ⟨bA, oA + 4, none⟩ = some (.int .i64 dx) := hsix 4 (by omega)
  have c5 : w.cell? ⟨bA, oA + 5, none⟩ = some (.slice ax lx cx) := hsix 5 (by omega)
  obtain ⟨W0, hW0⟩ : ∃ W0 : World, W0 = (w.alloc (.cells #[.int .u8 5, .int .i64 pl, .string nm, .int .i64 it, .int .i64 dn, .slice (some ⟨bA, oA, none⟩) 1 cap] 41)).alloc (.cells #[.int .u8 kx, .int .i64 px, .string nx, .int .i64 ix, .int .i64 dx, .slice ax lx cx] 41) := ⟨_, rfl⟩
  have HS0 : Hid (W0.heap.size = w.heap.size + 2) := by rw [Hid, hW0]; simp
  have HBx : Hid (W0.heap[w.heap.size + 1]? = some (.cells #[.int .u8 kx, .int .i64 px, .string nx, .int .i64 ix, .int .i64 dx, .slice ax lx cx] 41 (0, 0))) := by rw [Hid, hW0]; exact heap_at (by simp)
  have HW0 : Hid (Writes W b s W0) := by rw [Hid, hW0]; exact (hw.alloc _).alloc _
  have HK0 : Hid (Keeps b w W0) := by rw [Hid, hW0]; exact ((Keeps.refl _ _).alloc _).alloc _
  have HB0 : Hid (Keeps b W0 W0) := Keeps.refl _ _
  have HLT : Hid (b < w.heap.size) := hw.lt
  have HNe : Hid (w.heap.size + 1 ≠ b) := by have := HLT.out; rw [Hid]; omega
  have HE0 : Hid _ := hW0
  have hltw : bA < w.heap.size := Nat.lt_of_lt_of_le hlt hw.size
  clear hW0 hw hsix hlt
  subst h5
  go_enter Tryd.func42, Tryd.ntmps42
  go_wp2_with fail
  rw [← HE0.out]
  clear c0 c1 c2 c3 c4 c5
  refine (put_text [⟨#[45]⟩] _ _ (t := [45]) rfl (HW0.out.alloc _) (heap_at (by have := HS0.out; omega)) (by have := HLT.out; omega) (by simp) ((room_app HR.out).1)).mono ?_
  rintro x w1 ⟨rfl, hw1, hk1⟩
  have HW1 : Hid (Writes W b (s ++ [45]) w1) := hw1
  have HB1 : Hid (Keeps b W0 w1) := HB0.out.trans (((Keeps.refl _ _).alloc _).trans hk1)
  clear hw1 hk1
  have bx := HB1.out.block HBx.out HNe.out (by decide)
  have c0 : w1.cell? ⟨w.heap.size + 1, 0, none⟩ = some (.int .u8 5) := by rw [cell_of_row bx]; rfl
  have c1 : w1.cell? ⟨w.heap.size + 1, 1, none⟩ = some (.int .i64 px) := by rw [cell_of_row bx]; rfl
  have c2 : w1.cell? ⟨w.heap.size + 1, 2, none⟩ = some (.string nx) := by rw [cell_of_row bx]; rfl
  have c3 : w1.cell? ⟨w.heap.size + 1, 3, none⟩ = some (.int .i64 ix) := by rw [cell_of_row bx]; rfl
  have c4 : w1.cell? ⟨w.heap.size + 1, 4, none⟩ = some (.int .i64 dx) := by rw [cell_of_row bx]; rfl
  have c5 : w1.cell? ⟨w.heap.size + 1, 5, none⟩ = some (.slice ax lx cx) := by rw [cell_of_row bx]; rfl
  clear bx
  go_wp2_with fail
  clear c0 c1 c2 c3 c4 c5
  refine (put_text [⟨#[32]⟩] _ _ (t := [32]) rfl (HW1.out.alloc _) (heap_at (by rfl)) (by have := HW1.out.lt; omega) (by simp) ((room_app (room_app HR.out).2).1)).mono ?_
  rintro x w2 ⟨rfl, hw2, hk2⟩
  have HW2 : Hid (Writes W b ((s ++ [45]) ++ [32]) w2) := hw2
  have HB2 : Hid (Keeps b W0 w2) := HB1.out.trans (((Keeps.refl _ _).alloc _).trans hk2)
  clear hw2 hk2
  have bx := HB2.out.block HBx.out HNe.out (by decide)
  have c0 : w2.cell? ⟨w.heap.size + 1, 0, none⟩ = some (.int .u8 5) := by rw [cell_of_row bx]; rfl
  have c1 : w2.cell? ⟨w.heap.size + 1, 1, none⟩ = some (.int .i64 px) := by rw [cell_of_row bx]; rfl
  have c2 : w2.cell? ⟨w.heap.size + 1, 2, none⟩ = some (.string nx) := by rw [cell_of_row bx]; rfl
  have c3 : w2.cell? ⟨w.heap.size + 1, 3, none⟩ = some (.int .i64 ix) := by rw [cell_of_row bx]; rfl
  have c4 : w2.cell? ⟨w.heap.size + 1, 4, none⟩ = some (.int .i64 dx) := by rw [cell_of_row bx]; rfl
  have c5 : w2.cell? ⟨w.heap.size + 1, 5, none⟩ = some (.slice ax lx cx) := by rw [cell_of_row bx]; rfl
  clear bx
  go_wp2_with fail
  refine (CA0 _ _ HW2.out ((room_app (room_app HR.out).2).2)).mono ?_
  rintro x w3 ⟨rfl, hw3, hk3⟩
  have HW3 : Hid (Writes W b (((s ++ [45]) ++ [32]) ++ P) w3) := hw3
  have HB3 : Hid (Keeps b W0 w3) := HB2.out.trans (hk3)
  clear hw3 hk3
  clear c0 c1 c2 c3 c4 c5
  go_wp2_with fail
  go_end0
  exact ⟨rfl, by rw [HT.out]; simpa using HW3.out, HK0.out.trans HB3.out⟩
end Go.Proofs.YtbahpbinilnfoaaDoor
/- The program's putBehind. -/
namespace Go.Proofs.YtbahpbinilnfoaaDoor
open Go.RowKit
open Ex.size Ex.depth Ex.lies Ex.bulk Ex.good Ex.shape Ex.text
attribute [local go_sem] later_size later_cell later_frozen later_setCell later_drew later_drewN later_tape drewN_setCell drewN_alloc drewN_later later_later lt_more lt_more1 lt_more2 lt_more3 lt_more4 lk0_0_1 lk1_0_1 lk2_0_1 lk0_0_2 lk1_0_2 lk2_0_2 lk0_1_2 lk0_0_3 lk1_0_3 lk2_0_3 lk0_1_3 lk0_2_3 lk0_0_4 lk1_0_4 lk2_0_4 lk0_1_4 lk0_2_4 lk0_3_4 lk0_0_5 lk1_0_5 lk2_0_5 lk0_1_5 lk0_2_5 lk0_3_5 lk0_4_5 lk0_0_6 lk1_0_6 lk2_0_6 lk0_1_6 lk0_2_6 lk0_3_6 lk0_4_6 lk0_5_6 lk0_0_7 lk1_0_7 lk2_0_7 lk0_1_7 lk0_2_7 lk0_3_7 lk0_4_7 lk0_5_7 lk0_6_7
theorem num_range {n : Int} (h : (Lit.int .i64 n).wf = true) : -9223372036854775808 ≤ n ∧ n ≤ 9223372036854775807 := bounds_i64 h
theorem HasPow.grown {W w : World} {b : Nat} {s : List UInt8} (h : HasPow W) (hw : Writes W b s w) (hg : 6 ≤ W.heap.size) : HasPow w := h.below hw.bel (by omega)
set_option maxRecDepth 100000 in
set_option maxHeartbeats 3200000 in
theorem putBehind_24 {W : World} {b : Nat} {pl it dn : Int} {nm : ByteArray} {a : Option Addr} {cap : Nat} {x : Ex} (hl : Ex.lies W (.mk 24 pl nm it dn a cap [x])) (hp : PutsAt W b x 9) (hi : -9223372036854775808 ≤ it ∧ it ≤ 9223372036854775807) (hpow : HasPow W) (hng : 6 ≤ W.heap.size) (s : List UInt8) (w : World) (hw : Writes W b s w) (hr : room s (Ex.text (.mk 24 pl nm it dn a cap [x]))) :
    Calls Tryd.prog 43 #[pv b, Ex.val (.mk 24 pl nm it dn a cap [x])] w fun r w' => r = .returned (.tuple #[]) ∧ Writes W b (s ++ Ex.text (.mk 24 pl nm it dn a cap [x])) w' ∧ Keeps b w w' := by
  obtain ⟨bA, oA, rfl, hc, hlt⟩ := lone_lies hl
  obtain ⟨P, hP⟩ : ∃ P, P = par 9 (x.kd, x.text) := ⟨_, rfl⟩
  obtain ⟨N, hN⟩ : ∃ N, N = Lib.itoa it := ⟨_, rfl⟩
  have HT : Hid (Ex.text (.mk 24 pl nm it dn (some ⟨bA, oA, none⟩) cap [x]) = P ++ ([32, 42, 94, 32] ++ N)) := by rw [Hid, hP, hN]; show par 9 (x.kd, x.text) ++ [32, 42, 94, 32] ++ Lib.itoa it = _; simp only [List.append_assoc]
  have HR : Hid (room s (P ++ ([32, 42, 94, 32] ++ N))) := by rw [Hid, ← HT.out]; exact hr
  generalize Ex.text (.mk 24 pl nm it dn (some ⟨bA, oA, none⟩) cap [x]) = pt at *
  have hsix := six_old hw.bel hc
  have CA0 : ∀ s w, Writes W b s w → room s P → Calls Tryd.prog 44 #[pv b, x.val, .int .i64 9] w fun x w' => x = .returned (.tuple #[]) ∧ Writes W b (s ++ P) w' ∧ Keeps b w w' := by rw [hP]; exact hp
  have CN : ∀ s w, Writes W b s w → Calls Tryd.prog 39 #[.int .i64 it] w fun e w' => e = .returned (.string ⟨N.toArray⟩) ∧ Gr w w' := fun s w hw => by rw [hN]; exact digits_calls it hi.1 hi.2 w (hpow.grown hw hng)
  clear hP hN hp hc hl hr hpow
  obtain ⟨kx, px, nx, ix, dx, ax, cx, ls⟩ := x
  obtain ⟨lx, hlx⟩ : ∃ lx, lx = ls.length := ⟨_, rfl⟩
  simp only [Ex.val, Ex.cells, List.toArray, pv, ← hlx] at *
  have c0 : w.cell? ⟨bA, oA, none⟩ = some (.int .u8 kx) := hsix 0 (by omega)
  have c1 : w.cell? ⟨bA, oA + 1, none⟩ = some (.int .i64 px) := hsix 1 (by omega)
  have c2 : w.cell? ⟨bA, oA + 2, none⟩ = some (.string nx) := hsix 2 (by omega)
  have c3 : w.cell? ⟨bA, oA + 3, none⟩ = some (.int .i64 ix) := hsix 3 (by omega)
  have c4 : w.cell? ⟨bA, oA + 4, none⟩ = some (.int .i64 dx) := hsix 4 (by omega)
  have c5 : w.cell? ⟨bA, oA + 5, none⟩ = some (.slice ax lx cx) := hsix 5 (by omega)
  obtain ⟨W0, hW0⟩ : ∃ W0 : World, W0 = w.alloc (.cells #[.int .u8 24, .int .i64 pl, .string nm, .int .i64 it, .int .i64 dn, .slice (some ⟨bA, oA, none⟩) 1 cap] 41) := ⟨_, rfl⟩
  have HS0 : Hid (W0.heap.size = w.heap.size + 1) := by rw [Hid, hW0]; simp
  have HBx : Hid (W0.heap[w.heap.size]? = some (.cells #[.int .u8 24, .int .i64 pl, .string nm, .int .i64 it, .int .i64 dn, .slice (some ⟨bA, oA, none⟩) 1 cap] 41 (0, 0))) := by rw [Hid, hW0]; exact heap_at rfl
  have HW0 : Hid (Writes W b s W0) := by rw [Hid, hW0]; exact hw.alloc _
  have HK0 : Hid (Keeps b w W0) := by rw [Hid, hW0]; exact (Keeps.refl _ _).alloc _
  have HB0 : Hid (Keeps b W0 W0) := Keeps.refl _ _
  have HLT : Hid (b < w.heap.size) := hw.lt
  have HNe : Hid (w.heap.size ≠ b) := by have := HLT.out; rw [Hid]; omega
  have HE0 : Hid _ := hW0
  have hltw : bA < w.heap.size := Nat.lt_of_lt_of_le hlt hw.size
  clear hW0 hw hsix hlt
  go_enter Tryd.func43, Tryd.ntmps43
  go_wp2_with fail
  rw [← HE0.out]
  clear c0 c1 c2 c3 c4 c5
  refine (CA0 _ _ HW0.out ((room_app HR.out).1)).mono ?_
  rintro x w1 ⟨rfl, hw1, hk1⟩
  have HW1 : Hid (Writes W b (s ++ P) w1) := hw1
  have HB1 : Hid (Keeps b W0 w1) := HB0.out.trans (hk1)
  clear hw1 hk1
  have bx := HB1.out.block HBx.out HNe.out (by decide)
  have c0 : w1.cell? ⟨w.heap.size, 0, none⟩ = some (.int .u8 24) := by rw [cell_of_row bx]; rfl
  have c3 : w1.cell? ⟨w.heap.size, 3, none⟩ = some (.int .i64 it) := by rw [cell_of_row bx]; rfl
  have c4 : w1.cell? ⟨w.heap.size, 4, none⟩ = some (.int .i64 dn) := by rw [cell_of_row bx]; rfl
  clear bx
  go_wp2_with fail
  refine (CN _ _ HW1.out).mono ?_
  rintro x w2 ⟨rfl, hg2⟩
  have HW2 : Hid (Writes W b (s ++ P) w2) := HW1.out.below hg2.below
  have HB2 : Hid (Keeps b W0 w2) := HB1.out.below hg2.below
  clear hg2 c0 c3 c4
  go_wp2_with fail
  refine (put_text [⟨#[32, 42, 94, 32]⟩, ⟨N.toArray⟩] _ _ (t := ([32, 42, 94, 32] ++ N)) (by first | rfl | simp [flat]) (HW2.out.alloc _) (heap_at (by rfl)) (by have := HW2.out.lt; omega) (by simp) ((room_app HR.out).2)).mono ?_
  rintro x w3 ⟨rfl, hw3, hk3⟩
  have HW3 : Hid (Writes W b ((s ++ P) ++ ([32, 42, 94, 32] ++ N)) w3) := hw3
  have HB3 : Hid (Keeps b W0 w3) := HB2.out.trans (((Keeps.refl _ _).alloc _).trans hk3)
  clear hw3 hk3
  go_wp2_with fail
  go_end0
  exact ⟨rfl, by rw [HT.out]; simpa using HW3.out, HK0.out.trans HB3.out⟩
set_option maxRecDepth 100000 in
set_option maxHeartbeats 3200000 in
theorem putBehind_25 {W : World} {b : Nat} {pl it dn : Int} {nm : ByteArray} {a : Option Addr} {cap : Nat} {x : Ex} (hl : Ex.lies W (.mk 25 pl nm it dn a cap [x])) (hp : PutsAt W b x 9) (hi : -9223372036854775808 ≤ it ∧ it ≤ 9223372036854775807) (hpow : HasPow W) (hng : 6 ≤ W.heap.size) (s : List UInt8) (w : World) (hw : Writes W b s w) (hr : room s (Ex.text (.mk 25 pl nm it dn a cap [x]))) :
    Calls Tryd.prog 43 #[pv b, Ex.val (.mk 25 pl nm it dn a cap [x])] w fun r w' => r = .returned (.tuple #[]) ∧ Writes W b (s ++ Ex.text (.mk 25 pl nm it dn a cap [x])) w' ∧ Keeps b w w' := by
  obtain ⟨bA, oA, rfl, hc, hlt⟩ := lone_lies hl
  obtain ⟨P, hP⟩ : ∃ P, P = par 9 (x.kd, x.text) := ⟨_, rfl⟩
  obtain ⟨N, hN⟩ : ∃ N, N = Lib.itoa it := ⟨_, rfl⟩
  have HT : Hid (Ex.text (.mk 25 pl nm it dn (some ⟨bA, oA, none⟩) cap [x]) = P ++ ([32, 47, 94, 32] ++ N)) := by rw [Hid, hP, hN]; show par 9 (x.kd, x.text) ++ [32, 47, 94, 32] ++ Lib.itoa it = _; simp only [List.append_assoc]
  have HR : Hid (room s (P ++ ([32, 47, 94, 32] ++ N))) := by rw [Hid, ← HT.out]; exact hr
  generalize Ex.text (.mk 25 pl nm it dn (some ⟨bA, oA, none⟩) cap [x]) = pt at *
  have hsix := six_old hw.bel hc
  have CA0 : ∀ s w, Writes W b s w → room s P → Calls Tryd.prog 44 #[pv b, x.val, .int .i64 9] w fun x w' => x = .returned (.tuple #[]) ∧ Writes W b (s ++ P) w' ∧ Keeps b w w' := by rw [hP]; exact hp
  have CN : ∀ s w, Writes W b s w → Calls Tryd.prog 39 #[.int .i64 it] w fun e w' => e = .returned (.string ⟨N.toArray⟩) ∧ Gr w w' := fun s w hw => by rw [hN]; exact digits_calls it hi.1 hi.2 w (hpow.grown hw hng)
  clear hP hN hp hc hl hr hpow
  obtain ⟨kx, px, nx, ix, dx, ax, cx, ls⟩ := x
  obtain ⟨lx, hlx⟩ : ∃ lx, lx = ls.length := ⟨_, rfl⟩
  simp only [Ex.val, Ex.cells, List.toArray, pv, ← hlx] at *
  have c0 : w.cell? ⟨bA, oA, none⟩ = some (.int .u8 kx) := hsix 0 (by omega)
  have c1 : w.cell? ⟨bA, oA + 1, none⟩ = some (.int .i64 px) := hsix 1 (by omega)
  have c2 : w.cell? ⟨bA, oA + 2, none⟩ = some (.string nx) := hsix 2 (by omega)
  have c3 : w.cell? ⟨bA, oA + 3, none⟩ = some (.int .i64 ix) := hsix 3 (by omega)
  have c4 : w.cell? ⟨bA, oA + 4, none⟩ = some (.int .i64 dx) := hsix 4 (by omega)
  have c5 : w.cell? ⟨bA, oA + 5, none⟩ = some (.slice ax lx cx) := hsix 5 (by omega)
  obtain ⟨W0, hW0⟩ : ∃ W0 : World, W0 = w.alloc (.cells #[.int .u8 25, .int .i64 pl, .string nm, .int .i64 it, .int .i64 dn, .slice (some ⟨bA, oA, none⟩) 1 cap] 41) := ⟨_, rfl⟩
  have HS0 : Hid (W0.heap.size = w.heap.size + 1) := by rw [Hid, hW0]; simp
  have HBx : Hid (W0.heap[w.heap.size]? = some (.cells #[.int .u8 25, .int .i64 pl, .string nm, .int .i64 it, .int .i64 dn, .slice (some ⟨bA, oA, none⟩) 1 cap] 41 (0, 0))) := by rw [Hid, hW0]; exact heap_at rfl
  have HW0 : Hid (Writes W b s W0) := by rw [Hid, hW0]; exact hw.alloc _
  have HK0 : Hid (Keeps b w W0) := by rw [Hid, hW0]; exact (Keeps.refl _ _).alloc _
  have HB0 : Hid (Keeps b W0 W0) := Keeps.refl _ _
  have HLT : Hid (b < w.heap.size) := hw.lt
  have HNe : Hid (w.heap.size ≠ b) := by have := HLT.out; rw [Hid]; omega
  have HE0 : Hid _ := hW0
  have hltw : bA < w.heap.size := Nat.lt_of_lt_of_le hlt hw.size
  clear hW0 hw hsix hlt
  go_enter Tryd.func43, Tryd.ntmps43
  go_wp2_with fail
  rw [← HE0.out]
  clear c0 c1 c2 c3 c4 c5
  refine (CA0 _ _ HW0.out ((room_app HR.out).1)).mono ?_
  rintro x w1 ⟨rfl, hw1, hk1⟩
  have HW1 : Hid (Writes W b (s ++ P) w1) := hw1
  have HB1 : Hid (Keeps b W0 w1) := HB0.out.trans (hk1)
  clear hw1 hk1
  have bx := HB1.out.block HBx.out HNe.out (by decide)
  have c0 : w1.cell? ⟨w.heap.size, 0, none⟩ = some (.int .u8 25) := by rw [cell_of_row bx]; rfl
  have c3 : w1.cell? ⟨w.heap.size, 3, none⟩ = some (.int .i64 it) := by rw [cell_of_row bx]; rfl
  have c4 : w1.cell? ⟨w.heap.size, 4, none⟩ = some (.int .i64 dn) := by rw [cell_of_row bx]; rfl
  clear bx
  go_wp2_with fail
  refine (CN _ _ HW1.out).mono ?_
  rintro x w2 ⟨rfl, hg2⟩
  have HW2 : Hid (Writes W b (s ++ P) w2) := HW1.out.below hg2.below
  have HB2 : Hid (Keeps b W0 w2) := HB1.out.below hg2.below
  clear hg2 c0 c3 c4
  go_wp2_with fail
  refine (put_text [⟨#[32, 47, 94, 32]⟩, ⟨N.toArray⟩] _ _ (t := ([32, 47, 94, 32] ++ N)) (by first | rfl | simp [flat]) (HW2.out.alloc _) (heap_at (by rfl)) (by have := HW2.out.lt; omega) (by simp) ((room_app HR.out).2)).mono ?_
  rintro x w3 ⟨rfl, hw3, hk3⟩
  have HW3 : Hid (Writes W b ((s ++ P) ++ ([32, 47, 94, 32] ++ N)) w3) := hw3
  have HB3 : Hid (Keeps b W0 w3) := HB2.out.trans (((Keeps.refl _ _).alloc _).trans hk3)
  clear hw3 hk3
  go_wp2_with fail
  go_end0
  exact ⟨rfl, by rw [HT.out]; simpa using HW3.out, HK0.out.trans HB3.out⟩
set_option maxRecDepth 100000 in
set_option maxHeartbeats 3200000 in
theorem putBehind_26 {W : World} {b : Nat} {pl it dn : Int} {nm : ByteArray} {a : Option Addr} {cap : Nat} {x : Ex} (hl : Ex.lies W (.mk 26 pl nm it dn a cap [x])) (hp : PutsAt W b x 9) (hi : -9223372036854775808 ≤ it ∧ it ≤ 9223372036854775807) (hd : -9223372036854775808 ≤ dn ∧ dn ≤ 9223372036854775807) (hpow : HasPow W) (hng : 6 ≤ W.heap.size) (s : List UInt8) (w : World) (hw : Writes W b s w) (hr : room s (Ex.text (.mk 26 pl nm it dn a cap [x]))) :
    Calls Tryd.prog 43 #[pv b, Ex.val (.mk 26 pl nm it dn a cap [x])] w fun r w' => r = .returned (.tuple #[]) ∧ Writes W b (s ++ Ex.text (.mk 26 pl nm it dn a cap [x])) w' ∧ Keeps b w w' := by
  obtain ⟨bA, oA, rfl, hc, hlt⟩ := lone_lies hl
  obtain ⟨P, hP⟩ : ∃ P, P = par 9 (x.kd, x.text) := ⟨_, rfl⟩
  obtain ⟨N, hN⟩ : ∃ N, N = Lib.itoa it := ⟨_, rfl⟩
  obtain ⟨D, hD⟩ : ∃ D, D = Lib.itoa dn := ⟨_, rfl⟩
  have HT : Hid (Ex.text (.mk 26 pl nm it dn (some ⟨bA, oA, none⟩) cap [x]) = P ++ ([32, 126, 62, 32] ++ (N ++ ([47] ++ D)))) := by rw [Hid, hP, hN, hD]; show par 9 (x.kd, x.text) ++ [32, 126, 62, 32] ++ Lib.itoa it ++ [47] ++ Lib.itoa dn = _; simp only [List.append_assoc]
  have HR : Hid (room s (P ++ ([32, 126, 62, 32] ++ (N ++ ([47] ++ D))))) := by rw [Hid, ← HT.out]; exact hr
  generalize Ex.text (.mk 26 pl nm it dn (some ⟨bA, oA, none⟩) cap [x]) = pt at *
  have hsix := six_old hw.bel hc
  have CA0 : ∀ s w, Writes W b s w → room s P → Calls Tryd.prog 44 #[pv b, x.val, .int .i64 9] w fun x w' => x = .returned (.tuple #[]) ∧ Writes W b (s ++ P) w' ∧ Keeps b w w' := by rw [hP]; exact hp
  have CN : ∀ s w, Writes W b s w → Calls Tryd.prog 39 #[.int .i64 it] w fun e w' => e = .returned (.string ⟨N.toArray⟩) ∧ Gr w w' := fun s w hw => by rw [hN]; exact digits_calls it hi.1 hi.2 w (hpow.grown hw hng)
  have CD : ∀ s w, Writes W b s w → Calls Tryd.prog 39 #[.int .i64 dn] w fun e w' => e = .returned (.string ⟨D.toArray⟩) ∧ Gr w w' := fun s w hw => by rw [hD]; exact digits_calls dn hd.1 hd.2 w (hpow.grown hw hng)
  clear hP hN hp hc hl hr hpow hD
  obtain ⟨kx, px, nx, ix, dx, ax, cx, ls⟩ := x
  obtain ⟨lx, hlx⟩ : ∃ lx, lx = ls.length := ⟨_, rfl⟩
  simp only [Ex.val, Ex.cells, List.toArray, pv, ← hlx] at *
  have c0 : w.cell? ⟨bA, oA, none⟩ = some (.int .u8 kx) := hsix 0 (by omega)
  have c1 : w.cell? ⟨bA, oA + 1, none⟩ = some (.int .i64 px) := hsix 1 (by omega)
  have c2 : w.cell? ⟨bA, oA + 2, none⟩ = some (.string nx) := hsix 2 (by omega)
  have c3 : w.cell? ⟨bA, oA + 3, none⟩ = some (.int .i64 ix) := hsix 3 (by omega)
  have c4 : w.cell? ⟨bA, oA + 4, none⟩ = some (.int .i64 dx) := hsix 4 (by omega)
  have c5 : w.cell? ⟨bA, oA + 5, none⟩ = some (.slice ax lx cx) := hsix 5 (by omega)
  obtain ⟨W0, hW0⟩ : ∃ W0 : World, W0 = w.alloc (.cells #[.int .u8 26, .int .i64 pl, .string nm, .int .i64 it, .int .i64 dn, .slice (some ⟨bA, oA, none⟩) 1 cap] 41) := ⟨_, rfl⟩
  have HS0 : Hid (W0.heap.size = w.heap.size + 1) := by rw [Hid, hW0]; simp
  have HBx : Hid (W0.heap[w.heap.size]? = some (.cells #[.int .u8 26, .int .i64 pl, .string nm, .int .i64 it, .int .i64 dn, .slice (some ⟨bA, oA, none⟩) 1 cap] 41 (0, 0))) := by rw [Hid, hW0]; exact heap_at rfl
  have HW0 : Hid (Writes W b s W0) := by rw [Hid, hW0]; exact hw.alloc _
  have HK0 : Hid (Keeps b w W0) := by rw [Hid, hW0]; exact (Keeps.refl _ _).alloc _
  have HB0 : Hid (Keeps b W0 W0) := Keeps.refl _ _
  have HLT : Hid (b < w.heap.size) := hw.lt
  have HNe : Hid (w.heap.size ≠ b) := by have := HLT.out; rw [Hid]; omega
  have HE0 : Hid _ := hW0
  have hltw : bA < w.heap.size := Nat.lt_of_lt_of_le hlt hw.size
  clear hW0 hw hsix hlt
  go_enter Tryd.func43, Tryd.ntmps43
  go_wp2_with fail
  rw [← HE0.out]
  clear c0 c1 c2 c3 c4 c5
  refine (CA0 _ _ HW0.out ((room_app HR.out).1)).mono ?_
  rintro x w1 ⟨rfl, hw1, hk1⟩
  have HW1 : Hid (Writes W b (s ++ P) w1) := hw1
  have HB1 : Hid (Keeps b W0 w1) := HB0.out.trans (hk1)
  clear hw1 hk1
  have bx := HB1.out.block HBx.out HNe.out (by decide)
  have c0 : w1.cell? ⟨w.heap.size, 0, none⟩ = some (.int .u8 26) := by rw [cell_of_row bx]; rfl
  have c3 : w1.cell? ⟨w.heap.size, 3, none⟩ = some (.int .i64 it) := by rw [cell_of_row bx]; rfl
  have c4 : w1.cell? ⟨w.heap.size, 4, none⟩ = some (.int .i64 dn) := by rw [cell_of_row bx]; rfl
  clear bx
  go_wp2_with fail
  have hbw : w.heap.size < w1.heap.size := lt_of_block (HB1.out.block HBx.out HNe.out (by decide))
  have HW1d : Hid (Writes W b (s ++ P) w1.drew) := HW1.out.below ((Gr.refl w1).drew).below
  have HB1d : Hid (Keeps b W0 w1.drew) := HB1.out.below ((Gr.refl w1).drew).below
  go_region_held3 (fun w' => w'.cell? ⟨w.heap.size, 3, none⟩ = some (.int .i64 it) ∧ w'.cell? ⟨w.heap.size, 4, none⟩ = some (.int .i64 dn) ∧ w.heap.size < w'.heap.size) (go_simp) (first
    | (go_at_call 39; refine (CN _ _ (Hid.out (by assumption))).mono ?_; rintro r w5 ⟨rfl, hg5⟩; have hW5 : Hid (Writes W b (s ++ P) w5) := (by refine Writes.below (Hid.out ?_) hg5.below; assumption); have hB5 : Hid (Keeps b W0 w5) := (by refine Keeps.below (Hid.out ?_) hg5.below; assumption); have l3 : w5.cell? ⟨w.heap.size, 3, none⟩ = some (.int .i64 it) := (hg5.below.cell (p := ⟨w.heap.size, 3, none⟩) (by assumption)).trans (by assumption); have l4 : w5.cell? ⟨w.heap.size, 4, none⟩ = some (.int .i64 dn) := (hg5.below.cell (p := ⟨w.heap.size, 4, none⟩) (by assumption)).trans (by assumption); have l5 : w.heap.size < w5.heap.size := Nat.lt_of_lt_of_le (by assumption) hg5.below.size; clear hg5)
    | (go_at_call 39; refine (CD _ _ (Hid.out (by assumption))).mono ?_; rintro r w5 ⟨rfl, hg5⟩; have hW5 : Hid (Writes W b (s ++ P) w5) := (by refine Writes.below (Hid.out ?_) hg5.below; assumption); have hB5 : Hid (Keeps b W0 w5) := (by refine Keeps.below (Hid.out ?_) hg5.below; assumption); have l3 : w5.cell? ⟨w.heap.size, 3, none⟩ = some (.int .i64 it) := (hg5.below.cell (p := ⟨w.heap.size, 3, none⟩) (by assumption)).trans (by assumption); have l4 : w5.cell? ⟨w.heap.size, 4, none⟩ = some (.int .i64 dn) := (hg5.below.cell (p := ⟨w.heap.size, 4, none⟩) (by assumption)).trans (by assumption); have l5 : w.heap.size < w5.heap.size := Nat.lt_of_lt_of_le (by assumption) hg5.below.size; clear hg5)
    | (go_at_call 19; refine (put_new [⟨#[32, 126, 62, 32]⟩, ⟨N.toArray⟩, ⟨#[47]⟩, ⟨D.toArray⟩] _ _ (t := [32, 126, 62, 32] ++ (N ++ ([47] ++ D))) (by simp [flat]) rfl (Hid.out (by assumption)) (by simp) (room_app HR.out).2).mono ?_; rintro r w7 ⟨rfl, hw7, hk7⟩; have HW7 : Hid (Writes W b ((s ++ P) ++ ([32, 126, 62, 32] ++ (N ++ ([47] ++ D)))) w7) := hw7; have HB7 : Hid (Keeps b W0 w7) := (by refine Keeps.trans (Hid.out ?_) hk7; assumption); have l3 : w7.cell? ⟨w.heap.size, 3, none⟩ = some (.int .i64 it) := (by rw [cell_of_row (HB7.out.block HBx.out HNe.out (by decide))]; rfl); have l4 : w7.cell? ⟨w.heap.size, 4, none⟩ = some (.int .i64 dn) := (by rw [cell_of_row (HB7.out.block HBx.out HNe.out (by decide))]; rfl); have l5 : w.heap.size < w7.heap.size := lt_of_block (HB7.out.block HBx.out HNe.out (by decide)); clear hw7 hk7))
  all_goals go_wp2_with fail
  all_goals go_end0
  all_goals exact ⟨rfl, by rw [HT.out]; simpa using HW7.out, HK0.out.trans HB7.out⟩
end Go.Proofs.YtbahpbinilnfoaaDoor
/- The program's putExpr, kind by kind. -/
namespace Go.Proofs.YtbahpbinilnfoaaDoor
open Go.RowKit
open Ex.size Ex.depth Ex.lies Ex.bulk Ex.good Ex.shape Ex.text
attribute [local go_sem] later_size later_cell later_frozen later_setCell later_drew later_drewN later_tape drewN_setCell drewN_alloc drewN_later later_later lt_more lt_more1 lt_more2 lt_more3 lt_more4 lk0_0_1 lk1_0_1 lk2_0_1 lk0_0_2 lk1_0_2 lk2_0_2 lk0_1_2 lk0_0_3 lk1_0_3 lk2_0_3 lk0_1_3 lk0_2_3 lk0_0_4 lk1_0_4 lk2_0_4 lk0_1_4 lk0_2_4 lk0_3_4 lk0_0_5 lk1_0_5 lk2_0_5 lk0_1_5 lk0_2_5 lk0_3_5 lk0_4_5 lk0_0_6 lk1_0_6 lk2_0_6 lk0_1_6 lk0_2_6 lk0_3_6 lk0_4_6 lk0_5_6 lk0_0_7 lk1_0_7 lk2_0_7 lk0_1_7 lk0_2_7 lk0_3_7 lk0_4_7 lk0_5_7 lk0_6_7
set_option maxRecDepth 100000 in
set_option maxHeartbeats 3200000 in
theorem putExpr_1 {W : World} {b : Nat} {pl it dn : Int} {nm : ByteArray} {a : Option Addr} {cap : Nat}  (s : List UInt8) (w : World) (hw : Writes W b s w) (hr : room s (Ex.text (.mk 1 pl nm it dn a cap []))) :
    Calls Tryd.prog 25 #[pv b, Ex.val (.mk 1 pl nm it dn a cap [])] w fun r w' => r = .returned (.tuple #[]) ∧ Writes W b (s ++ Ex.text (.mk 1 pl nm it dn a cap [])) w' ∧ Keeps b w w' := by
  have HT : Hid (Ex.text (.mk 1 pl nm it dn a cap []) = nm.data.toList) := rfl
  have HR : Hid (room s nm.data.toList) := hr
  generalize Ex.text (.mk 1 pl nm it dn a cap []) = pt at *
  simp only [Ex.val, Ex.cells, List.toArray, List.length_nil, pv] at *
  clear hr
  obtain ⟨W0, hW0⟩ : ∃ W0 : World, W0 = w.alloc (.cells #[.int .u8 1, .int .i64 pl, .string nm, .int .i64 it, .int .i64 dn, .slice a 0 cap] 41) := ⟨_, rfl⟩
  have HS0 : Hid (W0.heap.size = w.heap.size + 1) := by rw [Hid, hW0]; simp
  have HBx : Hid (W0.heap[w.heap.size]? = some (.cells #[.int .u8 1, .int .i64 pl, .string nm, .int .i64 it, .int .i64 dn, .slice a 0 cap] 41 (0, 0))) := by rw [Hid, hW0]; exact heap_at rfl
  have HW0 : Hid (Writes W b s W0) := by rw [Hid, hW0]; exact hw.alloc _
  have HK0 : Hid (Keeps b w W0) := by rw [Hid, hW0]; exact (Keeps.refl _ _).alloc _
  have HB0 : Hid (Keeps b W0 W0) := Keeps.refl _ _
  have HLT : Hid (b < w.heap.size) := hw.lt
  have HNe : Hid (w.heap.size ≠ b) := by have := HLT.out; rw [Hid]; omega
  have HE0 : Hid _ := hW0
  clear hW0 hw
  go_enter Tryd.func25, Tryd.ntmps25
  go_wp2_with fail
  rw [← HE0.out]
  refine (put_new [nm] _ _ (t := nm.data.toList) (by simp [flat]) (by have := HS0.out; omega) HW0.out (by simp) HR.out).mono ?_
  rintro x w1 ⟨rfl, hw1, hk1⟩
  have HW1 : Hid (Writes W b (s ++ nm.data.toList) w1) := hw1
  have HB1 : Hid (Keeps b W0 w1) := HB0.out.trans (hk1)
  clear hw1 hk1
  go_wp2_with fail
  go_end0
  exact ⟨rfl, by rw [HT.out]; simpa using HW1.out, HK0.out.trans HB1.out⟩
set_option maxRecDepth 100000 in
set_option maxHeartbeats 3200000 in
theorem putExpr_2 {W : World} {b : Nat} {pl it dn : Int} {nm : ByteArray} {a : Option Addr} {cap : Nat} (hi : -9223372036854775808 ≤ it ∧ it ≤ 9223372036854775807) (hpow : HasPow W) (hng : 6 ≤ W.heap.size) (s : List UInt8) (w : World) (hw : Writes W b s w) (hr : room s (Ex.text (.mk 2 pl nm it dn a cap []))) :
    Calls Tryd.prog 25 #[pv b, Ex.val (.mk 2 pl nm it dn a cap [])] w fun r w' => r = .returned (.tuple #[]) ∧ Writes W b (s ++ Ex.text (.mk 2 pl nm it dn a cap [])) w' ∧ Keeps b w w' := by
  obtain ⟨N, hN⟩ : ∃ N, N = Lib.itoa it := ⟨_, rfl⟩
  have HT : Hid (Ex.text (.mk 2 pl nm it dn a cap []) = N) := by rw [Hid, hN]; rfl
  have HR : Hid (room s N) := by rw [Hid, ← HT.out]; exact hr
  generalize Ex.text (.mk 2 pl nm it dn a cap []) = pt at *
  have CN : ∀ s w, Writes W b s w → Calls Tryd.prog 39 #[.int .i64 it] w fun e w' => e = .returned (.string ⟨N.toArray⟩) ∧ Gr w w' := fun s w hw => by rw [hN]; exact digits_calls it hi.1 hi.2 w (hpow.grown hw hng)
  simp only [Ex.val, Ex.cells, List.toArray, List.length_nil, pv] at *
  clear hr hN hpow
  obtain ⟨W0, hW0⟩ : ∃ W0 : World, W0 = w.alloc (.cells #[.int .u8 2, .int .i64 pl, .string nm, .int .i64 it, .int .i64 dn, .slice a 0 cap] 41) := ⟨_, rfl⟩
  have HS0 : Hid (W0.heap.size = w.heap.size + 1) := by rw [Hid, hW0]; simp
  have HBx : Hid (W0.heap[w.heap.size]? = some (.cells #[.int .u8 2, .int .i64 pl, .string nm, .int .i64 it, .int .i64 dn, .slice a 0 cap] 41 (0, 0))) := by rw [Hid, hW0]; exact heap_at rfl
  have HW0 : Hid (Writes W b s W0) := by rw [Hid, hW0]; exact hw.alloc _
  have HK0 : Hid (Keeps b w W0) := by rw [Hid, hW0]; exact (Keeps.refl _ _).alloc _
  have HB0 : Hid (Keeps b W0 W0) := Keeps.refl _ _
  have HLT : Hid (b < w.heap.size) := hw.lt
  have HNe : Hid (w.heap.size ≠ b) := by have := HLT.out; rw [Hid]; omega
  have HE0 : Hid _ := hW0
  clear hW0 hw
  go_enter Tryd.func25, Tryd.ntmps25
  go_wp2_with fail
  rw [← HE0.out]
  refine (CN _ _ HW0.out).mono ?_
  rintro x w1 ⟨rfl, hg1⟩
  have HW1 : Hid (Writes W b s w1) := HW0.out.below hg1.below
  have HB1 : Hid (Keeps b W0 w1) := HB0.out.below hg1.below
  clear hg1
  go_wp2_with fail
  refine (put_new [⟨N.toArray⟩] _ _ (t := N) (by simp [flat]) (by rfl) HW1.out (by simp) HR.out).mono ?_
  rintro x w2 ⟨rfl, hw2, hk2⟩
  have HW2 : Hid (Writes W b (s ++ N) w2) := hw2
  have HB2 : Hid (Keeps b W0 w2) := HB1.out.trans (hk2)
  clear hw2 hk2
  go_wp2_with fail
  go_end0
  exact ⟨rfl, by rw [HT.out]; simpa using HW2.out, HK0.out.trans HB2.out⟩
set_option maxRecDepth 100000 in
set_option maxHeartbeats 3200000 in
theorem putExpr_30 {W : World} {b : Nat} {pl it dn : Int} {nm : ByteArray} {a : Option Addr} {cap : Nat} (hi : it = 0) (s : List UInt8) (w : World) (hw : Writes W b s w) (hr : room s (Ex.text (.mk 3 pl nm it dn a cap []))) :
    Calls Tryd.prog 25 #[pv b, Ex.val (.mk 3 pl nm it dn a cap [])] w fun r w' => r = .returned (.tuple #[]) ∧ Writes W b (s ++ Ex.text (.mk 3 pl nm it dn a cap [])) w' ∧ Keeps b w w' := by
  subst hi
  have HT : Hid (Ex.text (.mk 3 pl nm 0 dn a cap []) = [102, 97, 108, 115, 101]) := rfl
  have HR : Hid (room s [102, 97, 108, 115, 101]) := by rw [Hid, ← HT.out]; exact hr
  generalize Ex.text (.mk 3 pl nm 0 dn a cap []) = pt at *
  have CN : ∀ w, Calls Tryd.prog 40 #[.bool false] w fun e w' => e = .returned (.string ⟨#[102, 97, 108, 115, 101]⟩) ∧ w' = w := fun w => formatBool_calls false w
  simp only [Ex.val, Ex.cells, List.toArray, List.length_nil, pv] at *
  clear hr
  obtain ⟨W0, hW0⟩ : ∃ W0 : World, W0 = w.alloc (.cells #[.int .u8 3, .int .i64 pl, .string nm, .int .i64 0, .int .i64 dn, .slice a 0 cap] 41) := ⟨_, rfl⟩
  have HS0 : Hid (W0.heap.size = w.heap.size + 1) := by rw [Hid, hW0]; simp
  have HBx : Hid (W0.heap[w.heap.size]? = some (.cells #[.int .u8 3, .int .i64 pl, .string nm, .int .i64 0, .int .i64 dn, .slice a 0 cap] 41 (0, 0))) := by rw [Hid, hW0]; exact heap_at rfl
  have HW0 : Hid (Writes W b s W0) := by rw [Hid, hW0]; exact hw.alloc _
  have HK0 : Hid (Keeps b w W0) := by rw [Hid, hW0]; exact (Keeps.refl _ _).alloc _
  have HB0 : Hid (Keeps b W0 W0) := Keeps.refl _ _
  have HLT : Hid (b < w.heap.size) := hw.lt
  have HNe : Hid (w.heap.size ≠ b) := by have := HLT.out; rw [Hid]; omega
  have HE0 : Hid _ := hW0
  clear hW0 hw
  go_enter Tryd.func25, Tryd.ntmps25
  go_wp2_with fail
  rw [← HE0.out]
  refine (CN _).mono ?_
  rintro x w1 ⟨rfl, rfl⟩
  go_wp2_with fail
  refine (put_new [⟨#[102, 97, 108, 115, 101]⟩] _ _ (t := [102, 97, 108, 115, 101]) (by first | rfl | simp [flat]) (by have := HS0.out; omega) HW0.out (by simp) HR.out).mono ?_
  rintro x w2 ⟨rfl, hw2, hk2⟩
  have HW2 : Hid (Writes W b (s ++ [102, 97, 108, 115, 101]) w2) := hw2
  have HB2 : Hid (Keeps b _ w2) := hk2
  clear hw2 hk2
  go_wp2_with fail
  go_end0
  exact ⟨rfl, by rw [HT.out]; simpa using HW2.out, HK0.out.trans HB2.out⟩
set_option maxRecDepth 100000 in
set_option maxHeartbeats 3200000 in
theorem putExpr_31 {W : World} {b : Nat} {pl it dn : Int} {nm : ByteArray} {a : Option Addr} {cap : Nat} (hi : it = 1) (s : List UInt8) (w : World) (hw : Writes W b s w) (hr : room s (Ex.text (.mk 3 pl nm it dn a cap []))) :
    Calls Tryd.prog 25 #[pv b, Ex.val (.mk 3 pl nm it dn a cap [])] w fun r w' => r = .returned (.tuple #[]) ∧ Writes W b (s ++ Ex.text (.mk 3 pl nm it dn a cap [])) w' ∧ Keeps b w w' := by
  subst hi
  have HT : Hid (Ex.text (.mk 3 pl nm 1 dn a cap []) = [116, 114, 117, 101]) := rfl
  have HR : Hid (room s [116, 114, 117, 101]) := by rw [Hid, ← HT.out]; exact hr
  generalize Ex.text (.mk 3 pl nm 1 dn a cap []) = pt at *
  have CN : ∀ w, Calls Tryd.prog 40 #[.bool true] w fun e w' => e = .returned (.string ⟨#[116, 114, 117, 101]⟩) ∧ w' = w := fun w => formatBool_calls true w
  simp only [Ex.val, Ex.cells, List.toArray, List.length_nil, pv] at *
  clear hr
  obtain ⟨W0, hW0⟩ : ∃ W0 : World, W0 = w.alloc (.cells #[.int .u8 3, .int .i64 pl, .string nm, .int .i64 1, .int .i64 dn, .slice a 0 cap] 41) := ⟨_, rfl⟩
  have HS0 : Hid (W0.heap.size = w.heap.size + 1) := by rw [Hid, hW0]; simp
  have HBx : Hid (W0.heap[w.heap.size]? = some (.cells #[.int .u8 3, .int .i64 pl, .string nm, .int .i64 1, .int .i64 dn, .slice a 0 cap] 41 (0, 0))) := by rw [Hid, hW0]; exact heap_at rfl
  have HW0 : Hid (Writes W b s W0) := by rw [Hid, hW0]; exact hw.alloc _
  have HK0 : Hid (Keeps b w W0) := by rw [Hid, hW0]; exact (Keeps.refl _ _).alloc _
  have HB0 : Hid (Keeps b W0 W0) := Keeps.refl _ _
  have HLT : Hid (b < w.heap.size) := hw.lt
  have HNe : Hid (w.heap.size ≠ b) := by have := HLT.out; rw [Hid]; omega
  have HE0 : Hid _ := hW0
  clear hW0 hw
  go_enter Tryd.func25, Tryd.ntmps25
  go_wp2_with fail
  rw [← HE0.out]
  refine (CN _).mono ?_
  rintro x w1 ⟨rfl, rfl⟩
  go_wp2_with fail
  refine (put_new [⟨#[116, 114, 117, 101]⟩] _ _ (t := [116, 114, 117, 101]) (by first | rfl | simp [flat]) (by have := HS0.out; omega) HW0.out (by simp) HR.out).mono ?_
  rintro x w2 ⟨rfl, hw2, hk2⟩
  have HW2 : Hid (Writes W b (s ++ [116, 114, 117, 101]) w2) := hw2
  have HB2 : Hid (Keeps b _ w2) := hk2
  clear hw2 hk2
  go_wp2_with fail
  go_end0
  exact ⟨rfl, by rw [HT.out]; simpa using HW2.out, HK0.out.trans HB2.out⟩
set_option maxRecDepth 100000 in
set_option maxHeartbeats 3200000 in
theorem putExpr_4 {W : World} {b : Nat} {pl it dn : Int} {nm : ByteArray} {a : Option Addr} {cap : Nat} {l : List Ex} (hc : ∀ s w, Writes W b s w → room s (Ex.text (.mk 4 pl nm it dn a cap l)) → Calls Tryd.prog 41 #[pv b, Ex.val (.mk 4 pl nm it dn a cap l)] w fun r w' => r = .returned (.tuple #[]) ∧ Writes W b (s ++ Ex.text (.mk 4 pl nm it dn a cap l)) w' ∧ Keeps b w w') (s : List UInt8) (w : World) (hw : Writes W b s w) (hr : room s (Ex.text (.mk 4 pl nm it dn a cap l))) :
    Calls Tryd.prog 25 #[pv b, Ex.val (.mk 4 pl nm it dn a cap l)] w fun r w' => r = .returned (.tuple #[]) ∧ Writes W b (s ++ Ex.text (.mk 4 pl nm it dn a cap l)) w' ∧ Keeps b w w' := by
  have HR : Hid (room s (Ex.text (.mk 4 pl nm it dn a cap l))) := hr
  generalize Ex.text (.mk 4 pl nm it dn a cap l) = pt at *
  obtain ⟨n, hn⟩ : ∃ n, n = l.length := ⟨_, rfl⟩
  simp only [Ex.val, Ex.cells, List.toArray, ← hn, pv] at *
  clear hr
  obtain ⟨W0, hW0⟩ : ∃ W0 : World, W0 = w.alloc (.cells #[.int .u8 4, .int .i64 pl, .string nm, .int .i64 it, .int .i64 dn, .slice a n cap] 41) := ⟨_, rfl⟩
  have HS0 : Hid (W0.heap.size = w.heap.size + 1) := by rw [Hid, hW0]; simp
  have HBx : Hid (W0.heap[w.heap.size]? = some (.cells #[.int .u8 4, .int .i64 pl, .string nm, .int .i64 it, .int .i64 dn, .slice a n cap] 41 (0, 0))) := by rw [Hid, hW0]; exact heap_at rfl
  have HW0 : Hid (Writes W b s W0) := by rw [Hid, hW0]; exact hw.alloc _
  have HK0 : Hid (Keeps b w W0) := by rw [Hid, hW0]; exact (Keeps.refl _ _).alloc _
  have HB0 : Hid (Keeps b W0 W0) := Keeps.refl _ _
  have HLT : Hid (b < w.heap.size) := hw.lt
  have HNe : Hid (w.heap.size ≠ b) := by have := HLT.out; rw [Hid]; omega
  have HE0 : Hid _ := hW0
  clear hW0 hw
  go_enter Tryd.func25, Tryd.ntmps25
  go_wp2_with fail
  rw [← HE0.out]
  refine (hc _ _ HW0.out (HR.out)).mono ?_
  rintro x w1 ⟨rfl, hw1, hk1⟩
  have HW1 : Hid (Writes W b (s ++ pt) w1) := hw1
  have HB1 : Hid (Keeps b W0 w1) := HB0.out.trans (hk1)
  clear hw1 hk1
  go_wp2_with fail
  go_end0
  exact ⟨rfl, HW1.out, HK0.out.trans HB1.out⟩
set_option maxRecDepth 100000 in
set_option maxHeartbeats 3200000 in
theorem putExpr_5 {W : World} {b : Nat} {pl it dn : Int} {nm : ByteArray} {a : Option Addr} {cap : Nat} {x : Ex} (hc : ∀ s w, Writes W b s w → room s (Ex.text (.mk 5 pl nm it dn a cap [x])) → Calls Tryd.prog 42 #[pv b, Ex.val (.mk 5 pl nm it dn a cap [x])] w fun r w' => r = .returned (.tuple #[]) ∧ Writes W b (s ++ Ex.text (.mk 5 pl nm it dn a cap [x])) w' ∧ Keeps b w w') (s : List UInt8) (w : World) (hw : Writes W b s w) (hr : room s (Ex.text (.mk 5 pl nm it dn a cap [x]))) :
    Calls Tryd.prog 25 #[pv b, Ex.val (.mk 5 pl nm it dn a cap [x])] w fun r w' => r = .returned (.tuple #[]) ∧ Writes W b (s ++ Ex.text (.mk 5 pl nm it dn a cap [x])) w' ∧ Keeps b w w' := by
  have HR : Hid (room s (Ex.text (.mk 5 pl nm it dn a cap [x]))) := hr
  generalize Ex.text (.mk 5 pl nm it dn a cap [x]) = pt at *
  simp only [Ex.val, Ex.cells, List.toArray, List.length_cons, List.length_nil, Nat.zero_add, pv] at *
  clear hr
  obtain ⟨W0, hW0⟩ : ∃ W0 : World, W0 = w.alloc (.cells #[.int .u8 5, .int .i64 pl, .string nm, .int .i64 it, .int .i64 dn, .slice a 1 cap] 41) := ⟨_, rfl⟩
  have HS0 : Hid (W0.heap.size = w.heap.size + 1) := by rw [Hid, hW0]; simp
  have HBx : Hid (W0.heap[w.heap.size]? = some (.cells #[.int .u8 5, .int .i64 pl, .string nm, .int .i64 it, .int .i64 dn, .slice a 1 cap] 41 (0, 0))) := by rw [Hid, hW0]; exact heap_at rfl
  have HW0 : Hid (Writes W b s W0) := by rw [Hid, hW0]; exact hw.alloc _
  have HK0 : Hid (Keeps b w W0) := by rw [Hid, hW0]; exact (Keeps.refl _ _).alloc _
  have HB0 : Hid (Keeps b W0 W0) := Keeps.refl _ _
  have HLT : Hid (b < w.heap.size) := hw.lt
  have HNe : Hid (w.heap.size ≠ b) := by have := HLT.out; rw [Hid]; omega
  have HE0 : Hid _ := hW0
  clear hW0 hw
  go_enter Tryd.func25, Tryd.ntmps25
  go_wp2_with fail
  rw [← HE0.out]
  refine (hc _ _ HW0.out (HR.out)).mono ?_
  rintro x w1 ⟨rfl, hw1, hk1⟩
  have HW1 : Hid (Writes W b (s ++ pt) w1) := hw1
  have HB1 : Hid (Keeps b W0 w1) := HB0.out.trans (hk1)
  clear hw1 hk1
  go_wp2_with fail
  go_end0
  exact ⟨rfl, HW1.out, HK0.out.trans HB1.out⟩
set_option maxRecDepth 100000 in
set_option maxHeartbeats 3200000 in
theorem putExpr_6 {W : World} {b : Nat} {pl it dn : Int} {nm : ByteArray} {a : Option Addr} {cap : Nat} {x : Ex} (hc : ∀ s w, Writes W b s w → room s (Ex.text (.mk 6 pl nm it dn a cap [x])) → Calls Tryd.prog 42 #[pv b, Ex.val (.mk 6 pl nm it dn a cap [x])] w fun r w' => r = .returned (.tuple #[]) ∧ Writes W b (s ++ Ex.text (.mk 6 pl nm it dn a cap [x])) w' ∧ Keeps b w w') (s : List UInt8) (w : World) (hw : Writes W b s w) (hr : room s (Ex.text (.mk 6 pl nm it dn a cap [x]))) :
    Calls Tryd.prog 25 #[pv b, Ex.val (.mk 6 pl nm it dn a cap [x])] w fun r w' => r = .returned (.tuple #[]) ∧ Writes W b (s ++ Ex.text (.mk 6 pl nm it dn a cap [x])) w' ∧ Keeps b w w' := by
  have HR : Hid (room s (Ex.text (.mk 6 pl nm it dn a cap [x]))) := hr
  generalize Ex.text (.mk 6 pl nm it dn a cap [x]) = pt at *
  simp only [Ex.val, Ex.cells, List.toArray, List.length_cons, List.length_nil, Nat.zero_add, pv] at *
  clear hr
  obtain ⟨W0, hW0⟩ : ∃ W0 : World, W0 = w.alloc (.cells #[.int .u8 6, .int .i64 pl, .string nm, .int .i64 it, .int .i64 dn, .slice a 1 cap] 41) := ⟨_, rfl⟩
  have HS0 : Hid (W0.heap.size = w.heap.size + 1) := by rw [Hid, hW0]; simp
  have HBx : Hid (W0.heap[w.heap.size]? = some (.cells #[.int .u8 6, .int .i64 pl, .string nm, .int .i64 it, .int .i64 dn, .slice a 1 cap] 41 (0, 0))) := by rw [Hid, hW0]; exact heap_at rfl
  have HW0 : Hid (Writes W b s W0) := by rw [Hid, hW0]; exact hw.alloc _
  have HK0 : Hid (Keeps b w W0) := by rw [Hid, hW0]; exact (Keeps.refl _ _).alloc _
  have HB0 : Hid (Keeps b W0 W0) := Keeps.refl _ _
  have HLT : Hid (b < w.heap.size) := hw.lt
  have HNe : Hid (w.heap.size ≠ b) := by have := HLT.out; rw [Hid]; omega
  have HE0 : Hid _ := hW0
  clear hW0 hw
  go_enter Tryd.func25, Tryd.ntmps25
  go_wp2_with fail
  rw [← HE0.out]
  refine (hc _ _ HW0.out (HR.out)).mono ?_
  rintro x w1 ⟨rfl, hw1, hk1⟩
  have HW1 : Hid (Writes W b (s ++ pt) w1) := hw1
  have HB1 : Hid (Keeps b W0 w1) := HB0.out.trans (hk1)
  clear hw1 hk1
  go_wp2_with fail
  go_end0
  exact ⟨rfl, HW1.out, HK0.out.trans HB1.out⟩
set_option maxRecDepth 100000 in
set_option maxHeartbeats 3200000 in
theorem putExpr_23 {W : World} {b : Nat} {pl it dn : Int} {nm : ByteArray} {a : Option Addr} {cap : Nat} {x : Ex} (hc : ∀ s w, Writes W b s w → room s (Ex.text (.mk 23 pl nm it dn a cap [x])) → Calls Tryd.prog 42 #[pv b, Ex.val (.mk 23 pl nm it dn a cap [x])] w fun r w' => r = .returned (.tuple #[]) ∧ Writes W b (s ++ Ex.text (.mk 23 pl nm it dn a cap [x])) w' ∧ Keeps b w w') (s : List UInt8) (w : World) (hw : Writes W b s w) (hr : room s (Ex.text (.mk 23 pl nm it dn a cap [x]))) :
    Calls Tryd.prog 25 #[pv b, Ex.val (.mk 23 pl nm it dn a cap [x])] w fun r w' => r = .returned (.tuple #[]) ∧ Writes W b (s ++ Ex.text (.mk 23 pl nm it dn a cap [x])) w' ∧ Keeps b w w' := by
  have HR : Hid (room s (Ex.text (.mk 23 pl nm it dn a cap [x]))) := hr
  generalize Ex.text (.mk 23 pl nm it dn a cap [x]) = pt at *
  simp only [Ex.val, Ex.cells, List.toArray, List.length_cons, List.length_nil, Nat.zero_add, pv] at *
  clear hr
  obtain ⟨W0, hW0⟩ : ∃ W0 : World, W0 = w.alloc (.cells #[.int .u8 23, .int .i64 pl, .string nm, .int .i64 it, .int .i64 dn, .slice a 1 cap] 41) := ⟨_, rfl⟩
  have HS0 : Hid (W0.heap.size = w.heap.size + 1) := by rw [Hid, hW0]; simp
  have HBx : Hid (W0.heap[w.heap.size]? = some (.cells #[.int .u8 23, .int .i64 pl, .string nm, .int .i64 it, .int .i64 dn, .slice a 1 cap] 41 (0, 0))) := by rw [Hid, hW0]; exact heap_at rfl
  have HW0 : Hid (Writes W b s W0) := by rw [Hid, hW0]; exact hw.alloc _
  have HK0 : Hid (Keeps b w W0) := by rw [Hid, hW0]; exact (Keeps.refl _ _).alloc _
  have HB0 : Hid (Keeps b W0 W0) := Keeps.refl _ _
  have HLT : Hid (b < w.heap.size) := hw.lt
  have HNe : Hid (w.heap.size ≠ b) := by have := HLT.out; rw [Hid]; omega
  have HE0 : Hid _ := hW0
  clear hW0 hw
  go_enter Tryd.func25, Tryd.ntmps25
  go_wp2_with fail
  rw [← HE0.out]
  refine (hc _ _ HW0.out (HR.out)).mono ?_
  rintro x w1 ⟨rfl, hw1, hk1⟩
  have HW1 : Hid (Writes W b (s ++ pt) w1) := hw1
  have HB1 : Hid (Keeps b W0 w1) := HB0.out.trans (hk1)
  clear hw1 hk1
  go_wp2_with fail
  go_end0
  exact ⟨rfl, HW1.out, HK0.out.trans HB1.out⟩
set_option maxRecDepth 100000 in
set_option maxHeartbeats 3200000 in
theorem putExpr_24 {W : World} {b : Nat} {pl it dn : Int} {nm : ByteArray} {a : Option Addr} {cap : Nat} {x : Ex} (hc : ∀ s w, Writes W b s w → room s (Ex.text (.mk 24 pl nm it dn a cap [x])) → Calls Tryd.prog 43 #[pv b, Ex.val (.mk 24 pl nm it dn a cap [x])] w fun r w' => r = .returned (.tuple #[]) ∧ Writes W b (s ++ Ex.text (.mk 24 pl nm it dn a cap [x])) w' ∧ Keeps b w w') (s : List UInt8) (w : World) (hw : Writes W b s w) (hr : room s (Ex.text (.mk 24 pl nm it dn a cap [x]))) :
    Calls Tryd.prog 25 #[pv b, Ex.val (.mk 24 pl nm it dn a cap [x])] w fun r w' => r = .returned (.tuple #[]) ∧ Writes W b (s ++ Ex.text (.mk 24 pl nm it dn a cap [x])) w' ∧ Keeps b w w' := by
  have HR : Hid (room s (Ex.text (.mk 24 pl nm it dn a cap [x]))) := hr
  generalize Ex.text (.mk 24 pl nm it dn a cap [x]) = pt at *
  simp only [Ex.val, Ex.cells, List.toArray, List.length_cons, List.length_nil, Nat.zero_add, pv] at *
  clear hr
  obtain ⟨W0, hW0⟩ : ∃ W0 : World, W0 = w.alloc (.cells #[.int .u8 24, .int .i64 pl, .string nm, .int .i64 it, .int .i64 dn, .slice a 1 cap] 41) := ⟨_, rfl⟩
  have HS0 : Hid (W0.heap.size = w.heap.size + 1) := by rw [Hid, hW0]; simp
  have HBx : Hid (W0.heap[w.heap.size]? = some (.cells #[.int .u8 24, .int .i64 pl, .string nm, .int .i64 it, .int .i64 dn, .slice a 1 cap] 41 (0, 0))) := by rw [Hid, hW0]; exact heap_at rfl
  have HW0 : Hid (Writes W b s W0) := by rw [Hid, hW0]; exact hw.alloc _
  have HK0 : Hid (Keeps b w W0) := by rw [Hid, hW0]; exact (Keeps.refl _ _).alloc _
  have HB0 : Hid (Keeps b W0 W0) := Keeps.refl _ _
  have HLT : Hid (b < w.heap.size) := hw.lt
  have HNe : Hid (w.heap.size ≠ b) := by have := HLT.out; rw [Hid]; omega
  have HE0 : Hid _ := hW0
  clear hW0 hw
  go_enter Tryd.func25, Tryd.ntmps25
  go_wp2_with fail
  rw [← HE0.out]
  refine (hc _ _ HW0.out (HR.out)).mono ?_
  rintro x w1 ⟨rfl, hw1, hk1⟩
  have HW1 : Hid (Writes W b (s ++ pt) w1) := hw1
  have HB1 : Hid (Keeps b W0 w1) := HB0.out.trans (hk1)
  clear hw1 hk1
  go_wp2_with fail
  go_end0
  exact ⟨rfl, HW1.out, HK0.out.trans HB1.out⟩
set_option maxRecDepth 100000 in
set_option maxHeartbeats 3200000 in
theorem putExpr_25 {W : World} {b : Nat} {pl it dn : Int} {nm : ByteArray} {a : Option Addr} {cap : Nat} {x : Ex} (hc : ∀ s w, Writes W b s w → room s (Ex.text (.mk 25 pl nm it dn a cap [x])) → Calls Tryd.prog 43 #[pv b, Ex.val (.mk 25 pl nm it dn a cap [x])] w fun r w' => r = .returned (.tuple #[]) ∧ Writes W b (s ++ Ex.text (.mk 25 pl nm it dn a cap [x])) w' ∧ Keeps b w w') (s : List UInt8) (w : World) (hw : Writes W b s w) (hr : room s (Ex.text (.mk 25 pl nm it dn a cap [x]))) :
    Calls Tryd.prog 25 #[pv b, Ex.val (.mk 25 pl nm it dn a cap [x])] w fun r w' => r = .returned (.tuple #[]) ∧ Writes W b (s ++ Ex.text (.mk 25 pl nm it dn a cap [x])) w' ∧ Keeps b w w' := by
  have HR : Hid (room s (Ex.text (.mk 25 pl nm it dn a cap [x]))) := hr
  generalize Ex.text (.mk 25 pl nm it dn a cap [x]) = pt at *
  simp only [Ex.val, Ex.cells, List.toArray, List.length_cons, List.length_nil, Nat.zero_add, pv] at *
  clear hr
  obtain ⟨W0, hW0⟩ : ∃ W0 : World, W0 = w.alloc (.cells #[.int .u8 25, .int .i64 pl, .string nm, .int .i64 it, .int .i64 dn, .slice a 1 cap] 41) := ⟨_, rfl⟩
  have HS0 : Hid (W0.heap.size = w.heap.size + 1) := by rw [Hid, hW0]; simp
  have HBx : Hid (W0.heap[w.heap.size]? = some (.cells #[.int .u8 25, .int .i64 pl, .string nm, .int .i64 it, .int .i64 dn, .slice a 1 cap] 41 (0, 0))) := by rw [Hid, hW0]; exact heap_at rfl
  have HW0 : Hid (Writes W b s W0) := by rw [Hid, hW0]; exact hw.alloc _
  have HK0 : Hid (Keeps b w W0) := by rw [Hid, hW0]; exact (Keeps.refl _ _).alloc _
  have HB0 : Hid (Keeps b W0 W0) := Keeps.refl _ _
  have HLT : Hid (b < w.heap.size) := hw.lt
  have HNe : Hid (w.heap.size ≠ b) := by have := HLT.out; rw [Hid]; omega
  have HE0 : Hid _ := hW0
  clear hW0 hw
  go_enter Tryd.func25, Tryd.ntmps25
  go_wp2_with fail
  rw [← HE0.out]
  refine (hc _ _ HW0.out (HR.out)).mono ?_
  rintro x w1 ⟨rfl, hw1, hk1⟩
  have HW1 : Hid (Writes W b (s ++ pt) w1) := hw1
  have HB1 : Hid (Keeps b W0 w1) := HB0.out.trans (hk1)
  clear hw1 hk1
  go_wp2_with fail
  go_end0
  exact ⟨rfl, HW1.out, HK0.out.trans HB1.out⟩
set_option maxRecDepth 100000 in
set_option maxHeartbeats 3200000 in
theorem putExpr_26 {W : World} {b : Nat} {pl it dn : Int} {nm : ByteArray} {a : Option Addr} {cap : Nat} {x : Ex} (hc : ∀ s w, Writes W b s w → room s (Ex.text (.mk 26 pl nm it dn a cap [x])) → Calls Tryd.prog 43 #[pv b, Ex.val (.mk 26 pl nm it dn a cap [x])] w fun r w' => r = .returned (.tuple #[]) ∧ Writes W b (s ++ Ex.text (.mk 26 pl nm it dn a cap [x])) w' ∧ Keeps b w w') (s : List UInt8) (w : World) (hw : Writes W b s w) (hr : room s (Ex.text (.mk 26 pl nm it dn a cap [x]))) :
    Calls Tryd.prog 25 #[pv b, Ex.val (.mk 26 pl nm it dn a cap [x])] w fun r w' => r = .returned (.tuple #[]) ∧ Writes W b (s ++ Ex.text (.mk 26 pl nm it dn a cap [x])) w' ∧ Keeps b w w' := by
  have HR : Hid (room s (Ex.text (.mk 26 pl nm it dn a cap [x]))) := hr
  generalize Ex.text (.mk 26 pl nm it dn a cap [x]) = pt at *
  simp only [Ex.val, Ex.cells, List.toArray, List.length_cons, List.length_nil, Nat.zero_add, pv] at *
  clear hr
  obtain ⟨W0, hW0⟩ : ∃ W0 : World, W0 = w.alloc (.cells #[.int .u8 26, .int .i64 pl, .string nm, .int .i64 it, .int .i64 dn, .slice a 1 cap] 41) := ⟨_, rfl⟩
  have HS0 : Hid (W0.heap.size = w.heap.size + 1) := by rw [Hid, hW0]; simp
  have HBx : Hid (W0.heap[w.heap.size]? = some (.cells #[.int .u8 26, .int .i64 pl, .string nm, .int .i64 it, .int .i64 dn, .slice a 1 cap] 41 (0, 0))) := by rw [Hid, hW0]; exact heap_at rfl
  have HW0 : Hid (Writes W b s W0) := by rw [Hid, hW0]; exact hw.alloc _
  have HK0 : Hid (Keeps b w W0) := by rw [Hid, hW0]; exact (Keeps.refl _ _).alloc _
  have HB0 : Hid (Keeps b W0 W0) := Keeps.refl _ _
  have HLT : Hid (b < w.heap.size) := hw.lt
  have HNe : Hid (w.heap.size ≠ b) := by have := HLT.out; rw [Hid]; omega
  have HE0 : Hid _ := hW0
  clear hW0 hw
  go_enter Tryd.func25, Tryd.ntmps25
  go_wp2_with fail
  rw [← HE0.out]
  refine (hc _ _ HW0.out (HR.out)).mono ?_
  rintro x w1 ⟨rfl, hw1, hk1⟩
  have HW1 : Hid (Writes W b (s ++ pt) w1) := hw1
  have HB1 : Hid (Keeps b W0 w1) := HB0.out.trans (hk1)
  clear hw1 hk1
  go_wp2_with fail
  go_end0
  exact ⟨rfl, HW1.out, HK0.out.trans HB1.out⟩
end Go.Proofs.YtbahpbinilnfoaaDoor
/- The program's putExpr: if, and the kinds of two Args; all kinds. -/
namespace Go.Proofs.YtbahpbinilnfoaaDoor
open Go.RowKit
open Ex.size Ex.depth Ex.lies Ex.bulk Ex.good Ex.shape Ex.text
attribute [local go_sem] later_size later_cell later_frozen later_setCell later_drew later_drewN later_tape drewN_setCell drewN_alloc drewN_later later_later lt_more lt_more1 lt_more2 lt_more3 lt_more4 lk0_0_1 lk1_0_1 lk2_0_1 lk0_0_2 lk1_0_2 lk2_0_2 lk0_1_2 lk0_0_3 lk1_0_3 lk2_0_3 lk0_1_3 lk0_2_3 lk0_0_4 lk1_0_4 lk2_0_4 lk0_1_4 lk0_2_4 lk0_3_4 lk0_0_5 lk1_0_5 lk2_0_5 lk0_1_5 lk0_2_5 lk0_3_5 lk0_4_5 lk0_0_6 lk1_0_6 lk2_0_6 lk0_1_6 lk0_2_6 lk0_3_6 lk0_4_6 lk0_5_6 lk0_0_7 lk1_0_7 lk2_0_7 lk0_1_7 lk0_2_7 lk0_3_7 lk0_4_7 lk0_5_7 lk0_6_7
/-- The table of the kinds of two Args. -/
def HasTwos (w : World) : Prop := ∀ kd : Int, isTwo kd → w.cell? ⟨0, kd.toNat * 3, none⟩ = some (.int .i64 (firstOf kd)) ∧ w.cell? ⟨0, kd.toNat * 3 + 1, none⟩ = some (.string ⟨(signOf kd).toArray⟩) ∧ w.cell? ⟨0, kd.toNat * 3 + 2, none⟩ = some (.int .i64 (secondOf kd))
theorem HasTwos.below {w w' : World} {B : Nat} (h : HasTwos w) (hb : Below B w w') (hB : 0 < B) : HasTwos w' := fun kd hk => by
  obtain ⟨h1, h2, h3⟩ := h kd hk
  exact ⟨(hb.cell (p := ⟨0, kd.toNat * 3, none⟩) hB).trans h1, (hb.cell (p := ⟨0, kd.toNat * 3 + 1, none⟩) hB).trans h2, (hb.cell (p := ⟨0, kd.toNat * 3 + 2, none⟩) hB).trans h3⟩
theorem old_cells {W w : World} {b o n : Nat} {c : List Value} (h : Below W.heap.size W w) (hb : b < W.heap.size) (hc : ∀ j, j < n → W.cell? ⟨b, o + j, none⟩ = c[j]?) : ∀ j, j < n → w.cell? ⟨b, o + j, none⟩ = c[j]? := fun j hj => (h.cell (p := ⟨b, o + j, none⟩) hb).trans (hc j hj)
theorem args_lie {W : World} {kd pl it dn : Int} {nm : ByteArray} {a : Option Addr} {cap : Nat} {l : List Ex} (h : Ex.lies W (.mk kd pl nm it dn a cap l)) (h0 : l ≠ []) : ∃ bA oA, a = some ⟨bA, oA, none⟩ ∧ bA < W.heap.size ∧ ∀ i (hi : i < l.length), (∀ j, j < 6 → W.cell? ⟨bA, oA + i * 6 + j, none⟩ = l[i].cells[j]?) ∧ l[i].lies W := by
  obtain ⟨bA, oA, h1, h2⟩ := h
  obtain rfl := h1 h0
  refine ⟨bA, oA, rfl, ?_, fun i hi => lieAt_get l oA i h2 hi⟩
  have hl : 0 < l.length := List.length_pos_iff.2 h0
  have h3 := (lieAt_get l oA 0 h2 hl).1 0 (by omega)
  cases hx : l[0]
  rw [hx] at h3
  exact World.block_lt_of_cell? W ⟨bA, _, none⟩ h3
set_option maxRecDepth 100000 in
set_option maxHeartbeats 3200000 in
theorem putExpr_20 {W : World} {b : Nat} {pl it dn : Int} {nm : ByteArray} {a : Option Addr} {cap : Nat} {x y z : Ex} (hl : Ex.lies W (.mk 20 pl nm it dn a cap [x, y, z])) (h1 : PutsExpr W b x) (h2 : PutsExpr W b y) (h3 : PutsExpr W b z) (s : List UInt8) (w : World) (hw : Writes W b s w) (hr : room s (Ex.text (.mk 20 pl nm it dn a cap [x, y, z]))) :
    Calls Tryd.prog 25 #[pv b, Ex.val (.mk 20 pl nm it dn a cap [x, y, z])] w fun r w' => r = .returned (.tuple #[]) ∧ Writes W b (s ++ Ex.text (.mk 20 pl nm it dn a cap [x, y, z])) w' ∧ Keeps b w w' := by
  obtain ⟨bA, oA, rfl, hlt, hx⟩ := args_lie hl (by simp)
  obtain ⟨X, hX⟩ : ∃ X, X = x.text := ⟨_, rfl⟩
  obtain ⟨Y, hY⟩ : ∃ Y, Y = y.text := ⟨_, rfl⟩
  obtain ⟨Z, hZ⟩ : ∃ Z, Z = z.text := ⟨_, rfl⟩
  have HT : Hid (Ex.text (.mk 20 pl nm it dn (some ⟨bA, oA, none⟩) cap [x, y, z]) = [105, 102, 32] ++ (X ++ ([32, 116, 104, 101, 110, 32] ++ (Y ++ ([32, 101, 108, 115, 101, 32] ++ Z))))) := by
    rw [Hid, hX, hY, hZ]
    show [105, 102, 32] ++ x.text ++ [32, 116, 104, 101, 110, 32] ++ y.text ++ [32, 101, 108, 115, 101, 32] ++ z.text = _
    simp only [List.append_assoc]
  have HR : Hid (room s ([105, 102, 32] ++ (X ++ ([32, 116, 104, 101, 110, 32] ++ (Y ++ ([32, 101, 108, 115, 101, 32] ++ Z)))))) := by rw [Hid, ← HT.out]; exact hr
  generalize Ex.text (.mk 20 pl nm it dn (some ⟨bA, oA, none⟩) cap [x, y, z]) = pt at *
  have HCx : Hid (∀ j, j < 6 → W.cell? ⟨bA, oA + j, none⟩ = x.cells[j]?) := fun j hj => by have := (hx 0 (by simp)).1 j hj; simpa using this
  have HCy : Hid (∀ j, j < 6 → W.cell? ⟨bA, oA + 6 + j, none⟩ = y.cells[j]?) := fun j hj => by have := (hx 1 (by simp)).1 j hj; simpa using this
  have HCz : Hid (∀ j, j < 6 → W.cell? ⟨bA, oA + 12 + j, none⟩ = z.cells[j]?) := fun j hj => by have := (hx 2 (by simp)).1 j hj; simpa using this
  have Cx : ∀ s w, Writes W b s w → room s X → Calls Tryd.prog 25 #[pv b, x.val] w fun x w' => x = .returned (.tuple #[]) ∧ Writes W b (s ++ X) w' ∧ Keeps b w w' := by rw [hX]; exact h1
  have Cy : ∀ s w, Writes W b s w → room s Y → Calls Tryd.prog 25 #[pv b, y.val] w fun x w' => x = .returned (.tuple #[]) ∧ Writes W b (s ++ Y) w' ∧ Keeps b w w' := by rw [hY]; exact h2
  have Cz : ∀ s w, Writes W b s w → room s Z → Calls Tryd.prog 25 #[pv b, z.val] w fun x w' => x = .returned (.tuple #[]) ∧ Writes W b (s ++ Z) w' ∧ Keeps b w w' := by rw [hZ]; exact h3
  clear hX hY hZ h1 h2 h3 hx hl hr
  obtain ⟨kx, px, nx, ix, dx, ax, cx, qx⟩ := x
  obtain ⟨lx, hlx⟩ : ∃ l, l = qx.length := ⟨_, rfl⟩
  obtain ⟨ky, py, ny, iy, dy, ay, cy, qy⟩ := y
  obtain ⟨ly, hly⟩ : ∃ l, l = qy.length := ⟨_, rfl⟩
  obtain ⟨kz, pz, nz, iz, dz, az, cz, qz⟩ := z
  obtain ⟨lz, hlz⟩ : ∃ l, l = qz.length := ⟨_, rfl⟩
  simp only [Ex.val, Ex.cells, List.toArray, List.length_cons, List.length_nil, Nat.zero_add, Nat.reduceAdd, pv, ← hlx, ← hly, ← hlz] at *
  have HLTA : Hid _ := hlt
  clear hlx hly hlz hlt
  obtain ⟨W0, hW0⟩ : ∃ W0 : World, W0 = w.alloc (.cells #[.int .u8 20, .int .i64 pl, .string nm, .int .i64 it, .int .i64 dn, .slice (some ⟨bA, oA, none⟩) 3 cap] 41) := ⟨_, rfl⟩
  have HS0 : Hid (W0.heap.size = w.heap.size + 1) := by rw [Hid, hW0]; simp
  have HBx : Hid (W0.heap[w.heap.size]? = some (.cells #[.int .u8 20, .int .i64 pl, .string nm, .int .i64 it, .int .i64 dn, .slice (some ⟨bA, oA, none⟩) 3 cap] 41 (0, 0))) := by rw [Hid, hW0]; exact heap_at rfl
  have HW0 : Hid (Writes W b s W0) := by rw [Hid, hW0]; exact hw.alloc _
  have HK0 : Hid (Keeps b w W0) := by rw [Hid, hW0]; exact (Keeps.refl _ _).alloc _
  have HB0 : Hid (Keeps b W0 W0) := Keeps.refl _ _
  have HLT : Hid (b < w.heap.size) := hw.lt
  have HNe : Hid (w.heap.size ≠ b) := by have := HLT.out; rw [Hid]; omega
  have HE0 : Hid _ := hW0
  clear hW0 hw
  go_enter Tryd.func25, Tryd.ntmps25
  go_wp2_with fail
  rw [← HE0.out]
  refine (put_new [⟨#[105, 102, 32]⟩] _ _ (t := [105, 102, 32]) rfl (by have := HS0.out; omega) HW0.out (by simp) (room_app HR.out).1).mono ?_
  rintro x w1 ⟨rfl, hw1, hk1⟩
  have HW1 : Hid (Writes W b (s ++ [105, 102, 32]) w1) := hw1
  have HB1 : Hid (Keeps b W0 w1) := HB0.out.trans (hk1)
  clear hw1 hk1
  have c5 : w1.cell? ⟨w.heap.size, 5, none⟩ = some (.slice (some ⟨bA, oA, none⟩) 3 cap) := by rw [cell_of_row (HB1.out.block HBx.out HNe.out (by decide))]; rfl
  have sx := old_cells HW1.out.bel HLTA.out HCx.out
  have e0 : w1.cell? ⟨bA, oA, none⟩ = some (.int .u8 kx) := sx 0 (by omega)
  have e1 : w1.cell? ⟨bA, oA + 1, none⟩ = some (.int .i64 px) := sx 1 (by omega)
  have e2 : w1.cell? ⟨bA, oA + 2, none⟩ = some (.string nx) := sx 2 (by omega)
  have e3 : w1.cell? ⟨bA, oA + 3, none⟩ = some (.int .i64 ix) := sx 3 (by omega)
  have e4 : w1.cell? ⟨bA, oA + 4, none⟩ = some (.int .i64 dx) := sx 4 (by omega)
  have e5 : w1.cell? ⟨bA, oA + 5, none⟩ = some (.slice ax lx cx) := sx 5 (by omega)
  clear sx
  have hbl : bA < w1.heap.size := World.block_lt_of_cell? w1 ⟨bA, oA, none⟩ e0
  go_wp2_with fail
  refine (Cx _ _ HW1.out ((room_app (room_app HR.out).2).1)).mono ?_
  rintro x w2 ⟨rfl, hw2, hk2⟩
  have HW2 : Hid (Writes W b ((s ++ [105, 102, 32]) ++ X) w2) := hw2
  have HB2 : Hid (Keeps b W0 w2) := HB1.out.trans (hk2)
  clear hw2 hk2
  clear c5 e0 e1 e2 e3 e4 e5 hbl
  go_wp2_with fail
  refine (put_new [⟨#[32, 116, 104, 101, 110, 32]⟩] _ _ (t := [32, 116, 104, 101, 110, 32]) rfl (by rfl) HW2.out (by simp) (room_app (room_app (room_app HR.out).2).2).1).mono ?_
  rintro x w3 ⟨rfl, hw3, hk3⟩
  have HW3 : Hid (Writes W b (((s ++ [105, 102, 32]) ++ X) ++ [32, 116, 104, 101, 110, 32]) w3) := hw3
  have HB3 : Hid (Keeps b W0 w3) := HB2.out.trans (hk3)
  clear hw3 hk3
  have c5 : w3.cell? ⟨w.heap.size, 5, none⟩ = some (.slice (some ⟨bA, oA, none⟩) 3 cap) := by rw [cell_of_row (HB3.out.block HBx.out HNe.out (by decide))]; rfl
  have sx := old_cells HW3.out.bel HLTA.out HCy.out
  have e0 : w3.cell? ⟨bA, oA + 6, none⟩ = some (.int .u8 ky) := sx 0 (by omega)
  have e1 : w3.cell? ⟨bA, oA + 6 + 1, none⟩ = some (.int .i64 py) := sx 1 (by omega)
  have e2 : w3.cell? ⟨bA, oA + 6 + 2, none⟩ = some (.string ny) := sx 2 (by omega)
  have e3 : w3.cell? ⟨bA, oA + 6 + 3, none⟩ = some (.int .i64 iy) := sx 3 (by omega)
  have e4 : w3.cell? ⟨bA, oA + 6 + 4, none⟩ = some (.int .i64 dy) := sx 4 (by omega)
  have e5 : w3.cell? ⟨bA, oA + 6 + 5, none⟩ = some (.slice ay ly cy) := sx 5 (by omega)
  clear sx
  have hbl : bA < w3.heap.size := World.block_lt_of_cell? w3 ⟨bA, oA + 6, none⟩ e0
  go_wp2_with fail
  refine (Cy _ _ HW3.out ((room_app (room_app (room_app (room_app HR.out).2).2).2).1)).mono ?_
  rintro x w4 ⟨rfl, hw4, hk4⟩
  have HW4 : Hid (Writes W b ((((s ++ [105, 102, 32]) ++ X) ++ [32, 116, 104, 101, 110, 32]) ++ Y) w4) := hw4
  have HB4 : Hid (Keeps b W0 w4) := HB3.out.trans (hk4)
  clear hw4 hk4
  clear c5 e0 e1 e2 e3 e4 e5 hbl
  go_wp2_with fail
  refine (put_new [⟨#[32, 101, 108, 115, 101, 32]⟩] _ _ (t := [32, 101, 108, 115, 101, 32]) rfl (by rfl) HW4.out (by simp) (room_app (room_app (room_app (room_app (room_app HR.out).2).2).2).2).1).mono ?_
  rintro x w5 ⟨rfl, hw5, hk5⟩
  have HW5 : Hid (Writes W b (((((s ++ [105, 102, 32]) ++ X) ++ [32, 116, 104, 101, 110, 32]) ++ Y) ++ [32, 101, 108, 115, 101, 32]) w5) := hw5
  have HB5 : Hid (Keeps b W0 w5) := HB4.out.trans (hk5)
  clear hw5 hk5
  have c5 : w5.cell? ⟨w.heap.size, 5, none⟩ = some (.slice (some ⟨bA, oA, none⟩) 3 cap) := by rw [cell_of_row (HB5.out.block HBx.out HNe.out (by decide))]; rfl
  have sx := old_cells HW5.out.bel HLTA.out HCz.out
  have e0 : w5.cell? ⟨bA, oA + 12, none⟩ = some (.int .u8 kz) := sx 0 (by omega)
  have e1 : w5.cell? ⟨bA, oA + 12 + 1, none⟩ = some (.int .i64 pz) := sx 1 (by omega)
  have e2 : w5.cell? ⟨bA, oA + 12 + 2, none⟩ = some (.string nz) := sx 2 (by omega)
  have e3 : w5.cell? ⟨bA, oA + 12 + 3, none⟩ = some (.int .i64 iz) := sx 3 (by omega)
  have e4 : w5.cell? ⟨bA, oA + 12 + 4, none⟩ = some (.int .i64 dz) := sx 4 (by omega)
  have e5 : w5.cell? ⟨bA, oA + 12 + 5, none⟩ = some (.slice az lz cz) := sx 5 (by omega)
  clear sx
  have hbl : bA < w5.heap.size := World.block_lt_of_cell? w5 ⟨bA, oA + 12, none⟩ e0
  go_wp2_with fail
  refine (Cz _ _ HW5.out ((room_app (room_app (room_app (room_app (room_app HR.out).2).2).2).2).2)).mono ?_
  rintro x w6 ⟨rfl, hw6, hk6⟩
  have HW6 : Hid (Writes W b ((((((s ++ [105, 102, 32]) ++ X) ++ [32, 116, 104, 101, 110, 32]) ++ Y) ++ [32, 101, 108, 115, 101, 32]) ++ Z) w6) := hw6
  have HB6 : Hid (Keeps b W0 w6) := HB5.out.trans (hk6)
  clear hw6 hk6
  clear c5 e0 e1 e2 e3 e4 e5 hbl
  go_wp2_with fail
  go_end0
  exact ⟨rfl, by rw [HT.out]; simpa using HW6.out, HK0.out.trans HB6.out⟩
end Go.Proofs.YtbahpbinilnfoaaDoor
/- The program's putExpr: the kinds of two Args; all kinds. -/
namespace Go.Proofs.YtbahpbinilnfoaaDoor
open Go.RowKit
open Ex.size Ex.depth Ex.lies Ex.bulk Ex.good Ex.shape Ex.text
attribute [local go_sem] later_size later_cell later_frozen later_setCell later_drew later_drewN later_tape drewN_setCell drewN_alloc drewN_later later_later lt_more lt_more1 lt_more2 lt_more3 lt_more4 lk0_0_1 lk1_0_1 lk2_0_1 lk0_0_2 lk1_0_2 lk2_0_2 lk0_1_2 lk0_0_3 lk1_0_3 lk2_0_3 lk0_1_3 lk0_2_3 lk0_0_4 lk1_0_4 lk2_0_4 lk0_1_4 lk0_2_4 lk0_3_4 lk0_0_5 lk1_0_5 lk2_0_5 lk0_1_5 lk0_2_5 lk0_3_5 lk0_4_5 lk0_0_6 lk1_0_6 lk2_0_6 lk0_1_6 lk0_2_6 lk0_3_6 lk0_4_6 lk0_5_6 lk0_0_7 lk1_0_7 lk2_0_7 lk0_1_7 lk0_2_7 lk0_3_7 lk0_4_7 lk0_5_7 lk0_6_7
set_option maxRecDepth 100000 in
set_option maxHeartbeats 3200000 in
theorem putExpr_two {W : World} {b : Nat} {pl it dn : Int} {nm : ByteArray} {a : Option Addr} {cap : Nat} {kd : Int} {x y : Ex} (hk : isTwo kd) (hl : Ex.lies W (.mk kd pl nm it dn a cap [x, y])) (h1 : PutsAt W b x (firstOf kd)) (h2 : PutsAt W b y (secondOf kd)) (htw : HasTwos W) (hng : 6 ≤ W.heap.size) (s : List UInt8) (w : World) (hw : Writes W b s w) (hr : room s (Ex.text (.mk kd pl nm it dn a cap [x, y]))) :
    Calls Tryd.prog 25 #[pv b, Ex.val (.mk kd pl nm it dn a cap [x, y])] w fun r w' => r = .returned (.tuple #[]) ∧ Writes W b (s ++ Ex.text (.mk kd pl nm it dn a cap [x, y])) w' ∧ Keeps b w w' := by
  obtain ⟨bA, oA, rfl, hlt, hx⟩ := args_lie hl (by simp)
  obtain ⟨X, hX⟩ : ∃ X, X = par (firstOf kd) (x.kd, x.text) := ⟨_, rfl⟩
  obtain ⟨Y, hY⟩ : ∃ Y, Y = par (secondOf kd) (y.kd, y.text) := ⟨_, rfl⟩
  obtain ⟨S, hS⟩ : ∃ S, S = signOf kd := ⟨_, rfl⟩
  have HT : Hid (Ex.text (.mk kd pl nm it dn (some ⟨bA, oA, none⟩) cap [x, y]) = X ++ (S ++ Y)) := by rw [Hid, hX, hY, hS, two_text hk, List.append_assoc]
  have HR : Hid (room s (X ++ (S ++ Y))) := by rw [Hid, ← HT.out]; exact hr
  generalize Ex.text (.mk kd pl nm it dn (some ⟨bA, oA, none⟩) cap [x, y]) = pt at *
  obtain ⟨t0, t1, t2⟩ := (htw.below hw.bel (by omega)) kd hk
  have hgw : 0 < w.heap.size := by have := hw.size; omega
  obtain ⟨f, hf⟩ : ∃ f, f = firstOf kd := ⟨_, rfl⟩
  obtain ⟨g, hg⟩ : ∃ g, g = secondOf kd := ⟨_, rfl⟩
  have CX : ∀ s w, Writes W b s w → room s X → Calls Tryd.prog 44 #[pv b, x.val, .int .i64 f] w fun x w' => x = .returned (.tuple #[]) ∧ Writes W b (s ++ X) w' ∧ Keeps b w w' := by rw [hX, hf]; exact h1
  have CY : ∀ s w, Writes W b s w → room s Y → Calls Tryd.prog 44 #[pv b, y.val, .int .i64 g] w fun x w' => x = .returned (.tuple #[]) ∧ Writes W b (s ++ Y) w' ∧ Keeps b w w' := by rw [hY, hg]; exact h2
  rw [← hf] at t0
  rw [← hS] at t1
  rw [← hg] at t2
  have HCx : Hid (∀ j, j < 6 → W.cell? ⟨bA, oA + j, none⟩ = x.cells[j]?) := fun j hj => by have := (hx 0 (by simp)).1 j hj; simpa using this
  have HCy : Hid (∀ j, j < 6 → W.cell? ⟨bA, oA + 6 + j, none⟩ = y.cells[j]?) := fun j hj => by have := (hx 1 (by simp)).1 j hj; simpa using this
  clear hX hY hS hf hg h1 h2 hx hl hr htw hng
  obtain ⟨kx, px, nx, ix, dx, ax, cx, qx⟩ := x
  obtain ⟨lx, hlx⟩ : ∃ l, l = qx.length := ⟨_, rfl⟩
  obtain ⟨ky, py, ny, iy, dy, ay, cy, qy⟩ := y
  obtain ⟨ly, hly⟩ : ∃ l, l = qy.length := ⟨_, rfl⟩
  simp only [Ex.val, Ex.cells, List.toArray, List.length_cons, List.length_nil, Nat.zero_add, Nat.reduceAdd, pv, ← hlx, ← hly] at *
  have HLTA : Hid _ := hlt
  have hk0 : 0 ≤ kd ∧ kd < 23 := by unfold isTwo at hk; omega
  obtain ⟨hk1, hk2⟩ := hk0
  have b1 : (kd == 1) = false := beq_false_of_ne (by unfold isTwo at hk; omega)
  have b2 : (kd == 2) = false := beq_false_of_ne (by unfold isTwo at hk; omega)
  have b3 : (kd == 3) = false := beq_false_of_ne (by unfold isTwo at hk; omega)
  have b4 : (kd == 4) = false := beq_false_of_ne (by unfold isTwo at hk; omega)
  have b5 : (kd == 5) = false := beq_false_of_ne (by unfold isTwo at hk; omega)
  have b6 : (kd == 6) = false := beq_false_of_ne (by unfold isTwo at hk; omega)
  have b20 : (kd == 20) = false := beq_false_of_ne (by unfold isTwo at hk; omega)
  have b23 : (kd == 23) = false := beq_false_of_ne (by unfold isTwo at hk; omega)
  have b24 : (kd == 24) = false := beq_false_of_ne (by unfold isTwo at hk; omega)
  have b25 : (kd == 25) = false := beq_false_of_ne (by unfold isTwo at hk; omega)
  have b26 : (kd == 26) = false := beq_false_of_ne (by unfold isTwo at hk; omega)
  clear hlx hly hlt hk
  obtain ⟨W0, hW0⟩ : ∃ W0 : World, W0 = (w.alloc (.cells #[.int .u8 kd, .int .i64 pl, .string nm, .int .i64 it, .int .i64 dn, .slice (some ⟨bA, oA, none⟩) 2 cap] 41)).alloc (.cells #[.int .i64 f, .string ⟨S.toArray⟩, .int .i64 g] 86) := ⟨_, rfl⟩
  have HS0 : Hid (W0.heap.size = w.heap.size + 2) := by rw [Hid, hW0]; simp
  have HBx : Hid (W0.heap[w.heap.size]? = some (.cells #[.int .u8 kd, .int .i64 pl, .string nm, .int .i64 it, .int .i64 dn, .slice (some ⟨bA, oA, none⟩) 2 cap] 41 (0, 0))) := by rw [Hid, hW0, Below.heap_alloc _ _ _ (by simp)]; exact heap_at rfl
  have HBt : Hid (W0.heap[w.heap.size + 1]? = some (.cells #[.int .i64 f, .string ⟨S.toArray⟩, .int .i64 g] 86 (0, 0))) := by rw [Hid, hW0]; exact heap_at (by simp)
  have HW0 : Hid (Writes W b s W0) := by rw [Hid, hW0]; exact (hw.alloc _).alloc _
  have HK0 : Hid (Keeps b w W0) := by rw [Hid, hW0]; exact ((Keeps.refl _ _).alloc _).alloc _
  have HLT : Hid (b < w.heap.size) := hw.lt
  have HNe : Hid (w.heap.size ≠ b) := by have := HLT.out; rw [Hid]; omega
  have HNt : Hid (w.heap.size + 1 ≠ b) := by have := HLT.out; rw [Hid]; omega
  have HE0 : Hid _ := hW0
  clear hW0 hw
  go_enter Tryd.func25, Tryd.ntmps25
  go_wp2_with fail
  rw [← HE0.out]
  clear t0 t1 t2 hgw b1 b2 b3 b4 b5 b6 b20 b23 b24 b25 b26
  have HB0 : Hid (Keeps b W0 W0) := Keeps.refl _ _
  have HWd0 : Hid (Writes W b s W0.drew) := HW0.out.below ((Gr.refl W0).drew).below
  have HBd0 : Hid (Keeps b W0 W0.drew) := HB0.out.below ((Gr.refl W0).drew).below
  have m0c5 : W0.cell? ⟨w.heap.size, 5, none⟩ = some (.slice (some ⟨bA, oA, none⟩) 2 cap) := (by rw [cell_of_row (HB0.out.block HBx.out HNe.out (by decide))]; rfl)
  have m0t : W0.cell? ⟨w.heap.size + 1, 0, none⟩ = some (.int .i64 f) := (by rw [cell_of_row (HB0.out.block HBt.out HNt.out (by decide))]; rfl)
  have m0sx := old_cells HW0.out.bel HLTA.out HCx.out
  have m0e0 : W0.cell? ⟨bA, oA, none⟩ = some (.int .u8 kx) := m0sx 0 (by omega)
  have m0e1 : W0.cell? ⟨bA, oA + 1, none⟩ = some (.int .i64 px) := m0sx 1 (by omega)
  have m0e2 : W0.cell? ⟨bA, oA + 2, none⟩ = some (.string nx) := m0sx 2 (by omega)
  have m0e3 : W0.cell? ⟨bA, oA + 3, none⟩ = some (.int .i64 ix) := m0sx 3 (by omega)
  have m0e4 : W0.cell? ⟨bA, oA + 4, none⟩ = some (.int .i64 dx) := m0sx 4 (by omega)
  have m0e5 : W0.cell? ⟨bA, oA + 5, none⟩ = some (.slice ax lx cx) := m0sx 5 (by omega)
  have m0b : bA < W0.heap.size := World.block_lt_of_cell? W0 ⟨bA, oA, none⟩ m0e0
  have m0z : w.heap.size + 1 < W0.heap.size := lt_of_block (HB0.out.block HBt.out HNt.out (by decide))
  clear m0sx
  go_region_held3 (fun w' => w'.cell? ⟨w.heap.size, 5, none⟩ = some (.slice (some ⟨bA, oA, none⟩) 2 cap) ∧ w'.cell? ⟨w.heap.size + 1, 0, none⟩ = some (.int .i64 f) ∧ w'.cell? ⟨bA, oA, none⟩ = some (.int .u8 kx) ∧ w'.cell? ⟨bA, oA + 1, none⟩ = some (.int .i64 px) ∧ w'.cell? ⟨bA, oA + 2, none⟩ = some (.string nx) ∧ w'.cell? ⟨bA, oA + 3, none⟩ = some (.int .i64 ix) ∧ w'.cell? ⟨bA, oA + 4, none⟩ = some (.int .i64 dx) ∧ w'.cell? ⟨bA, oA + 5, none⟩ = some (.slice ax lx cx) ∧ bA < w'.heap.size ∧ w.heap.size + 1 < w'.heap.size) (go_simp) (first | (go_at_call 44; refine (CX _ _ HWd0.out ((room_app HR.out).1)).mono ?_; rintro r w1 ⟨rfl, hw1, hk1⟩; have HW1 : Hid (Writes W b (s ++ X) w1) := hw1; have HB1 : Hid (Keeps b W0 w1) := HBd0.out.trans hk1; clear hw1 hk1; have m1c5 : w1.cell? ⟨w.heap.size, 5, none⟩ = some (.slice (some ⟨bA, oA, none⟩) 2 cap) := (by rw [cell_of_row (HB1.out.block HBx.out HNe.out (by decide))]; rfl); have m1t : w1.cell? ⟨w.heap.size + 1, 0, none⟩ = some (.int .i64 f) := (by rw [cell_of_row (HB1.out.block HBt.out HNt.out (by decide))]; rfl); have m1sx := old_cells HW1.out.bel HLTA.out HCx.out; have m1e0 : w1.cell? ⟨bA, oA, none⟩ = some (.int .u8 kx) := m1sx 0 (by omega); have m1e1 : w1.cell? ⟨bA, oA + 1, none⟩ = some (.int .i64 px) := m1sx 1 (by omega); have m1e2 : w1.cell? ⟨bA, oA + 2, none⟩ = some (.string nx) := m1sx 2 (by omega); have m1e3 : w1.cell? ⟨bA, oA + 3, none⟩ = some (.int .i64 ix) := m1sx 3 (by omega); have m1e4 : w1.cell? ⟨bA, oA + 4, none⟩ = some (.int .i64 dx) := m1sx 4 (by omega); have m1e5 : w1.cell? ⟨bA, oA + 5, none⟩ = some (.slice ax lx cx) := m1sx 5 (by omega); have m1b : bA < w1.heap.size := World.block_lt_of_cell? w1 ⟨bA, oA, none⟩ m1e0; have m1z : w.heap.size + 1 < w1.heap.size := lt_of_block (HB1.out.block HBt.out HNt.out (by decide)); clear m1sx))
  clear m0c5 m0t m0e0 m0e1 m0e2 m0e3 m0e4 m0e5 m0b m0z m1c5 m1t m1e0 m1e1 m1e2 m1e3 m1e4 m1e5 m1b m1z
  have c1 : w1.cell? ⟨w.heap.size + 1, 1, none⟩ = some (.string ⟨S.toArray⟩) := by rw [cell_of_row (HB1.out.block HBt.out HNt.out (by decide))]; rfl
  go_wp2_with fail
  refine (put_new [⟨S.toArray⟩] _ _ (t := S) (by simp [flat]) (by rfl) HW1.out (by simp) (room_app (room_app HR.out).2).1).mono ?_
  rintro x w2 ⟨rfl, hw2, hk2⟩
  have HW2 : Hid (Writes W b ((s ++ X) ++ S) w2) := hw2
  have HB2 : Hid (Keeps b W0 w2) := HB1.out.trans (hk2)
  clear hw2 hk2
  clear c1
  go_wp2_with fail
  have HWd2 : Hid (Writes W b ((s ++ X) ++ S) w2.drew) := HW2.out.below ((Gr.refl w2).drew).below
  have HBd2 : Hid (Keeps b W0 w2.drew) := HB2.out.below ((Gr.refl w2).drew).below
  have m2c5 : w2.cell? ⟨w.heap.size, 5, none⟩ = some (.slice (some ⟨bA, oA, none⟩) 2 cap) := (by rw [cell_of_row (HB2.out.block HBx.out HNe.out (by decide))]; rfl)
  have m2t : w2.cell? ⟨w.heap.size + 1, 2, none⟩ = some (.int .i64 g) := (by rw [cell_of_row (HB2.out.block HBt.out HNt.out (by decide))]; rfl)
  have m2sx := old_cells HW2.out.bel HLTA.out HCy.out
  have m2e0 : w2.cell? ⟨bA, oA + 6, none⟩ = some (.int .u8 ky) := m2sx 0 (by omega)
  have m2e1 : w2.cell? ⟨bA, oA + 6 + 1, none⟩ = some (.int .i64 py) := m2sx 1 (by omega)
  have m2e2 : w2.cell? ⟨bA, oA + 6 + 2, none⟩ = some (.string ny) := m2sx 2 (by omega)
  have m2e3 : w2.cell? ⟨bA, oA + 6 + 3, none⟩ = some (.int .i64 iy) := m2sx 3 (by omega)
  have m2e4 : w2.cell? ⟨bA, oA + 6 + 4, none⟩ = some (.int .i64 dy) := m2sx 4 (by omega)
  have m2e5 : w2.cell? ⟨bA, oA + 6 + 5, none⟩ = some (.slice ay ly cy) := m2sx 5 (by omega)
  have m2b : bA < w2.heap.size := World.block_lt_of_cell? w2 ⟨bA, oA + 6, none⟩ m2e0
  have m2z : w.heap.size + 1 < w2.heap.size := lt_of_block (HB2.out.block HBt.out HNt.out (by decide))
  clear m2sx
  go_region_held3 (fun w' => w'.cell? ⟨w.heap.size, 5, none⟩ = some (.slice (some ⟨bA, oA, none⟩) 2 cap) ∧ w'.cell? ⟨w.heap.size + 1, 2, none⟩ = some (.int .i64 g) ∧ w'.cell? ⟨bA, oA + 6, none⟩ = some (.int .u8 ky) ∧ w'.cell? ⟨bA, oA + 6 + 1, none⟩ = some (.int .i64 py) ∧ w'.cell? ⟨bA, oA + 6 + 2, none⟩ = some (.string ny) ∧ w'.cell? ⟨bA, oA + 6 + 3, none⟩ = some (.int .i64 iy) ∧ w'.cell? ⟨bA, oA + 6 + 4, none⟩ = some (.int .i64 dy) ∧ w'.cell? ⟨bA, oA + 6 + 5, none⟩ = some (.slice ay ly cy) ∧ bA < w'.heap.size ∧ w.heap.size + 1 < w'.heap.size) (go_simp) (first | (go_at_call 44; refine (CY _ _ HWd2.out ((room_app (room_app HR.out).2).2)).mono ?_; rintro r w3 ⟨rfl, hw3, hk3⟩; have HW3 : Hid (Writes W b (((s ++ X) ++ S) ++ Y) w3) := hw3; have HB3 : Hid (Keeps b W0 w3) := HBd2.out.trans hk3; clear hw3 hk3; have m3c5 : w3.cell? ⟨w.heap.size, 5, none⟩ = some (.slice (some ⟨bA, oA, none⟩) 2 cap) := (by rw [cell_of_row (HB3.out.block HBx.out HNe.out (by decide))]; rfl); have m3t : w3.cell? ⟨w.heap.size + 1, 2, none⟩ = some (.int .i64 g) := (by rw [cell_of_row (HB3.out.block HBt.out HNt.out (by decide))]; rfl); have m3sx := old_cells HW3.out.bel HLTA.out HCy.out; have m3e0 : w3.cell? ⟨bA, oA + 6, none⟩ = some (.int .u8 ky) := m3sx 0 (by omega); have m3e1 : w3.cell? ⟨bA, oA + 6 + 1, none⟩ = some (.int .i64 py) := m3sx 1 (by omega); have m3e2 : w3.cell? ⟨bA, oA + 6 + 2, none⟩ = some (.string ny) := m3sx 2 (by omega); have m3e3 : w3.cell? ⟨bA, oA + 6 + 3, none⟩ = some (.int .i64 iy) := m3sx 3 (by omega); have m3e4 : w3.cell? ⟨bA, oA + 6 + 4, none⟩ = some (.int .i64 dy) := m3sx 4 (by omega); have m3e5 : w3.cell? ⟨bA, oA + 6 + 5, none⟩ = some (.slice ay ly cy) := m3sx 5 (by omega); have m3b : bA < w3.heap.size := World.block_lt_of_cell? w3 ⟨bA, oA + 6, none⟩ m3e0; have m3z : w.heap.size + 1 < w3.heap.size := lt_of_block (HB3.out.block HBt.out HNt.out (by decide)); clear m3sx))
  go_wp2_with fail
  go_end0
  exact ⟨rfl, by rw [HT.out]; simpa using HW3.out, HK0.out.trans HB3.out⟩
end Go.Proofs.YtbahpbinilnfoaaDoor
/- The program's putExpr, whatever expression that may be. -/
namespace Go.Proofs.YtbahpbinilnfoaaDoor
open Go.RowKit
open Ex.size Ex.depth Ex.lies Ex.bulk Ex.good Ex.shape Ex.text
theorem shape_arg {kd pl it dn : Int} {nm : ByteArray} {a : Option Addr} {cap : Nat} {l : List Ex} (h : Ex.shape (.mk kd pl nm it dn a cap l) = true) {i : Nat} (hi : i < l.length) : (l[i]).shape = true := by
  simp only [Ex.shape, Bool.and_eq_true] at h
  cases hq : (l[i]).shape
  · have := shapes_false l i hi hq
    rw [this] at h
    exact absurd h.2 (by decide)
  · rfl
theorem good_arg {kd pl it dn : Int} {nm : ByteArray} {a : Option Addr} {cap : Nat} {l : List Ex} (h : Ex.good (.mk kd pl nm it dn a cap l)) {i : Nat} (hi : i < l.length) : (l[i]).good := goods_get h.2 hi
theorem kd_range {e : Ex} (h : e.shape = true) : 1 ≤ e.kd ∧ e.kd ≤ 26 := by
  obtain ⟨k, h1, h2, h3⟩ := kind_of h
  rw [h2]
  omega
theorem putExpr_all {W : World} {b : Nat} (hpow : HasPow W) (htw : HasTwos W) (hng : 6 ≤ W.heap.size) (m : Nat) : ∀ e : Ex, e.size ≤ m → e.shape = true → e.good → e.lies W → PutsExpr W b e := by
  induction m with
  | zero => intro e h; have := size_pos e; omega
  | succ m ih =>
    rintro ⟨kd, pl, nm, it, dn, a, cap, l⟩ hm h hgd hlie
    have hsub : ∀ i (hi : i < l.length), PutsExpr W b l[i] ∧ (l[i]).shape = true := fun i hi => by
      have h1 := size_arg hi
      simp only [Ex.size] at hm
      have h0 : l ≠ [] := fun e => by rw [e] at hi; simp at hi
      obtain ⟨bA, oA, -, -, h3⟩ := args_lie hlie h0
      exact ⟨ih _ (by omega) (shape_arg h hi) (good_arg hgd hi) (h3 i hi).2, shape_arg h hi⟩
    have hat : ∀ i (hi : i < l.length) (n : Int), 0 ≤ n ∧ n ≤ 100 → PutsAt W b l[i] n := fun i hi n hn => by
      obtain ⟨h1, h2⟩ := hsub i hi
      obtain ⟨r1, r2⟩ := kd_range h2
      exact putAt_calls h1 r1 r2 n hn
    have hir := num_range hgd.1.2.2.2.1
    have hdr := num_range hgd.1.2.2.2.2.1
    simp only [Ex.shape, Bool.and_eq_true] at h
    obtain ⟨⟨⟨⟨ha, hnm⟩, hit⟩, hdn⟩, -⟩ := h
    obtain ⟨r1, r2⟩ := args_range ha
    simp only [argsOkB, decide_eq_true_eq] at ha
    have two : ∀ {l : List Ex}, l.length = 2 → ∃ x y, l = [x, y] := fun {l} h => by
      match l, h with
      | [x, y], _ => exact ⟨x, y, rfl⟩
    have lone : ∀ {l : List Ex}, l.length = 1 → ∃ x, l = [x] := fun {l} h => by
      match l, h with
      | [x], _ => exact ⟨x, rfl⟩
    intro s w hw hr
    by_cases k1 : kd = 1
    · subst k1
      have hl : l = [] := List.length_eq_zero_iff.1 (by simp [argsOf] at ha; omega)
      subst hl
      exact putExpr_1 s w hw hr
    by_cases k2 : kd = 2
    · subst k2
      have hl : l = [] := List.length_eq_zero_iff.1 (by simp [argsOf] at ha; omega)
      subst hl
      exact putExpr_2 hir hpow hng s w hw hr
    by_cases k3 : kd = 3
    · subst k3
      have hl : l = [] := List.length_eq_zero_iff.1 (by simp [argsOf] at ha; omega)
      subst hl
      have hi : it = 0 ∨ it = 1 := by simpa [intOkB] using hit
      rcases hi with hi | hi
      · exact putExpr_30 hi s w hw hr
      · exact putExpr_31 hi s w hw hr
    by_cases k4 : kd = 4
    · subst k4
      have hn : l.length ≤ 32 := by simp [argsOf] at ha; omega
      exact putExpr_4 (fun s w hw hr => putCall_calls hlie (by omega) (fun x hx => by obtain ⟨i, hi, rfl⟩ := List.getElem_of_mem hx; exact (hsub i hi).1) s w hw hr) s w hw hr
    by_cases k5 : kd = 5
    · subst k5
      obtain ⟨x, rfl⟩ := lone (l := l) (by simp [argsOf] at ha; omega)
      have hp := hat 0 (by simp) 8 (by omega)
      refine putExpr_5 (fun s w hw hr => ?_) s w hw hr
      by_cases h5 : x.kd = 5
      · exact putAhead_55 hlie hp h5 s w hw hr
      · exact putAhead_5 hlie hp h5 s w hw hr
    by_cases k6 : kd = 6
    · subst k6
      obtain ⟨x, rfl⟩ := lone (l := l) (by simp [argsOf] at ha; omega)
      exact putExpr_6 (fun s w hw hr => putAhead_6 hlie (hat 0 (by simp) 4 (by omega)) s w hw hr) s w hw hr
    by_cases k23 : kd = 23
    · subst k23
      obtain ⟨x, rfl⟩ := lone (l := l) (by simp [argsOf] at ha; omega)
      exact putExpr_23 (fun s w hw hr => putAhead_23 hlie (hat 0 (by simp) 8 (by omega)) s w hw hr) s w hw hr
    by_cases k20 : kd = 20
    · subst k20
      obtain ⟨x, y, z, rfl⟩ : ∃ x y z, l = [x, y, z] := by
        have h3 : l.length = 3 := by simp [argsOf] at ha; omega
        match l, h3 with
        | [x, y, z], _ => exact ⟨x, y, z, rfl⟩
      exact putExpr_20 hlie (hsub 0 (by simp)).1 (hsub 1 (by simp)).1 (hsub 2 (by simp)).1 s w hw hr
    by_cases k24 : kd = 24
    · subst k24
      obtain ⟨x, rfl⟩ := lone (l := l) (by simp [argsOf] at ha; omega)
      exact putExpr_24 (fun s w hw hr => putBehind_24 hlie (hat 0 (by simp) 9 (by omega)) hir hpow hng s w hw hr) s w hw hr
    by_cases k25 : kd = 25
    · subst k25
      obtain ⟨x, rfl⟩ := lone (l := l) (by simp [argsOf] at ha; omega)
      exact putExpr_25 (fun s w hw hr => putBehind_25 hlie (hat 0 (by simp) 9 (by omega)) hir hpow hng s w hw hr) s w hw hr
    by_cases k26 : kd = 26
    · subst k26
      obtain ⟨x, rfl⟩ := lone (l := l) (by simp [argsOf] at ha; omega)
      exact putExpr_26 (fun s w hw hr => putBehind_26 hlie (hat 0 (by simp) 9 (by omega)) hir hdr hpow hng s w hw hr) s w hw hr
    have hk : isTwo kd := by unfold isTwo; omega
    have h2 : argsOf kd = 2 := by unfold isTwo at hk; unfold argsOf; rw [if_neg (by omega), if_neg (by omega), if_neg (by omega), if_pos hk]
    obtain ⟨x, y, rfl⟩ := two (l := l) (by rw [h2] at ha; omega)
    have hs := strong_pos kd
    have hs2 : strong kd ≤ 10 := by unfold strong; repeat' split
                                    all_goals omega
    have hf : 0 ≤ firstOf kd ∧ firstOf kd ≤ 100 := by unfold firstOf; repeat' split
                                                      all_goals omega
    have hg : 0 ≤ secondOf kd ∧ secondOf kd ≤ 100 := by unfold secondOf; repeat' split
                                                        all_goals omega
    exact putExpr_two hk hlie (hat 0 (by simp) _ hf) (hat 1 (by simp) _ hg) htw hng s w hw hr
end Go.Proofs.YtbahpbinilnfoaaDoor
