/- The statements' own look at how much a program is: whatever it answers, it answers, and changes nothing. -/
import Derived.Test.YthbjagmlcemefaaDoorTreeMay
import Derived.Test.YthbjagmlcemefaaDoorExWeigh
import Derived.Deep.RegionHeld3
namespace Go.Proofs.YthbjagmlcemefaaDoor
open Go.RowKit
open Ex.size Ex.depth Ex.lies Ex.bulk Ex.good Ex.shape
attribute [local go_sem] later_size later_cell later_frozen later_setCell later_drew later_drewN later_tape drewN_setCell drewN_alloc drewN_later later_later lt_more lt_more1 lt_more2 lt_more3 lt_more4 lk0_0_1 lk1_0_1 lk2_0_1 lk0_0_2 lk1_0_2 lk2_0_2 lk0_1_2 lk0_0_3 lk1_0_3 lk2_0_3 lk0_1_3 lk0_2_3 lk0_0_4 lk1_0_4 lk2_0_4 lk0_1_4 lk0_2_4 lk0_3_4 lk0_0_5 lk1_0_5 lk2_0_5 lk0_1_5 lk0_2_5 lk0_3_5 lk0_4_5 lk0_0_6 lk1_0_6 lk2_0_6 lk0_1_6 lk0_2_6 lk0_3_6 lk0_4_6 lk0_5_6 lk0_0_7 lk1_0_7 lk2_0_7 lk0_1_7 lk0_2_7 lk0_3_7 lk0_4_7 lk0_5_7 lk0_6_7
def SomeInt (x : Ending) : Prop := ∃ i : Int, x = .returned (.int .i64 i)
set_option maxRecDepth 100000 in
set_option maxHeartbeats 6400000 in
theorem lawParams_calls (l : List Pm) (a : Option Addr) (cap : Nat) (hn : l.length ≤ 1048576) (w : World) (hl : rowIn Pm.cells 7 w a l) :
    Calls Tryd.prog 37 #[.slice a l.length cap] w fun x w' => SomeInt x ∧ w' = w := by
  obtain ⟨n, hN⟩ : ∃ n, n = l.length := ⟨_, rfl⟩
  rw [← hN] at hn ⊢
  have HN : Hid (n = l.length) := hN
  have HL : Hid (rowIn Pm.cells 7 w a l) := hl
  clear hN hl
  go_enter Tryd.func37, Tryd.ntmps37
  go_wp2_with fail
  go_loopw [3, 4] (fun s i wr => ∃ (k : Nat) (x : Int), k ≤ n ∧ i = .int .i64 k ∧ s = .int .i64 x ∧ wr = w) (fun _ i _ => n - (intOf i).toNat)
  case atStart => exact ⟨0, 0, by omega, rfl, rfl, rfl⟩
  case round =>
    obtain ⟨k, x, hk, rfl, rfl, rfl⟩ := hrel
    by_cases hlt : k < n
    · have hkl : k < l.length := by rw [← HN.out]; exact hlt
      obtain ⟨b, o, rfl, hbl, hrow⟩ := HL.out (by intro h; rw [h] at hkl; simp at hkl)
      have c0 : wr.cell? ⟨b, o + k * 7, none⟩ = some (.string l[k].nm) := hrow k hkl 0 (by omega)
      by_cases hx : x ≤ 8192
      · go_wp2_with fail
        all_goals
          (go_roundw
           case rel => exact ⟨k + 1, _, by omega, by go_num, rfl, by first | rfl | trivial⟩
           case measure => simp [intOf]; omega)
      · go_wp2_with fail
        go_ret
        exact ⟨⟨_, rfl⟩, rfl⟩
    · obtain rfl : k = n := by omega
      go_wp2_with fail
      all_goals go_ret
      all_goals exact ⟨⟨_, rfl⟩, rfl⟩
/-- The weight of params, whatever it is. -/
structure ParIs (w : World) (v : Value) : Prop where
  out : ∀ w', Hid (Below w.heap.size w w') → Calls Tryd.prog 37 #[v] w' fun x w'' => SomeInt x ∧ w'' = w'
def SomeBool (x : Ending) : Prop := ∃ q : Bool, x = .returned (.bool q)
set_option maxRecDepth 100000 in
set_option maxHeartbeats 12800000 in
theorem large_calls (l : List Nd) (a : Option Addr) (cap : Nat) (hg : Goods l) (w : World) (hl : Lie w a l) : Calls Tryd.prog 12 #[.agg #[.slice a l.length cap]] w fun x w' => SomeBool x ∧ Below w.heap.size w w' := by
  have HG : Hid (∀ x ∈ l, x.good) := hg.1
  have HL : Hid (Lie w a l) := hl
  obtain ⟨n, hN⟩ : ∃ n, n = l.length := ⟨_, rfl⟩
  have hn : n ≤ 1048576 := by rw [hN]; exact hg.2.1
  have HN : Hid (n = l.length) := hN
  rw [← hN]
  obtain ⟨W0, hW0⟩ : ∃ W0 : World, W0 = w.alloc (.cells #[.slice a n cap] 25) := ⟨_, rfl⟩
  have HB0 : Hid (Below w.heap.size w W0) := by rw [hW0]; exact (Below.refl _ _).alloc (Nat.le_refl _) _
  have HS0 : Hid (W0.heap.size = w.heap.size + 1) := by rw [Hid, hW0]; simp
  have HX0 : Hid (W0.cell? ⟨w.heap.size, 0, none⟩ = some (.slice a n cap)) := by rw [Hid, hW0, World.cell?_alloc_at _ _ _ _ rfl]; rfl
  have HW0 : Hid _ := hW0
  clear hN hg hl hW0
  go_enter Tryd.func12, Tryd.ntmps12
  go_wp2_with fail
  rw [← HW0.out]
  go_loopw [3, 4] (fun s i wr => ∃ (k : Nat) (x : Int), k ≤ n ∧ i = .int .i64 k ∧ s = .int .i64 x ∧ Hid (Below (w.heap.size + 1) W0 wr) ∧ wr.cell? ⟨w.heap.size, 0, none⟩ = some (.slice a n cap)) (fun _ i _ => n - (intOf i).toNat)
  case atStart => exact ⟨0, 0, by omega, rfl, rfl, Below.refl _ _, HX0.out⟩
  case round =>
    obtain ⟨k, x, hk, rfl, rfl, HX, hx0⟩ := hrel
    have HB : Hid (Below w.heap.size w wr) := HB0.out.trans (HX.out.mono (by omega))
    have HSz : Hid (w.heap.size + 1 ≤ wr.heap.size) := by have h1 := HX.out.size; have h2 := HS0.out; rw [Hid]; omega
    by_cases hlt : k < n
    · by_cases hx : x ≤ 8192
      · have hkl : k < l.length := by rw [← HN.out]; exact hlt
        obtain ⟨b, o, rfl, hbl, hrow⟩ := HL.out.1 (by intro h; rw [h] at hkl; simp at hkl)
        have hcr : ∀ j, j < 7 → wr.cell? ⟨b, o + k * 7 + j, none⟩ = l[k].cells[j]? := fun j hj => (HB.out.cell (p := ⟨b, o + k * 7 + j, none⟩) hbl).trans (hrow k hkl j hj)
        have hgk := HG.out _ (List.getElem_mem hkl)
        have hlk := HL.out.2 _ (List.getElem_mem hkl)
        obtain ⟨W1, hW1⟩ : ∃ W1 : World, W1 = wr.alloc (.cells l[k].cells.toArray 29) := ⟨_, rfl⟩
        have hbW1 : Below wr.heap.size wr W1 := by rw [hW1]; exact (Below.refl _ _).alloc (Nat.le_refl _) _
        have hcW1 : ∀ j, j < 7 → W1.cell? ⟨wr.heap.size, j, none⟩ = l[k].cells[j]? := fun j hj => by rw [hW1]; exact cell_alloc_eq rfl
        have HQs : Hid (∀ x ∈ l[k].eqs, x.good) := hgk.2.2.2.2.2.2.2.2
        have HQL : Hid (rowIn Eqn.cells 8 w l[k].qa l[k].eqs ∧ ∀ q ∈ l[k].eqs, q.lies w) := hlk.2.2.2
        have P1 : ParIs w (.slice l[k].ia l[k].ins.length l[k].ic) := ⟨fun w' h => lawParams_calls _ _ _ hgk.2.1 w' (rowIn_below hlk.1 h)⟩
        have P2 : ParIs w (.slice l[k].oa l[k].outs.length l[k].oc) := ⟨fun w' h => lawParams_calls _ _ _ hgk.2.2.1 w' (rowIn_below hlk.2.1 h)⟩
        have P3 : ParIs w (.slice l[k].va l[k].vars.length l[k].vc) := ⟨fun w' h => lawParams_calls _ _ _ hgk.2.2.2.1 w' (rowIn_below hlk.2.2.1 h)⟩
        have hqn : l[k].eqs.length ≤ 1048576 := hgk.2.2.2.2.1
        have hnm : l[k].nm.size ≤ 1048576 := hgk.1
        clear hlk hgk
        generalize l[k] = y at *
        obtain ⟨fl, nm, pl, ia, ic, ins, oa, oc, outs, va, vc, vars, qa, qc, eqs⟩ := y
        have c0 : wr.cell? ⟨b, o + k * 7, none⟩ = some (.bool fl) := hcr 0 (by omega)
        have c1 : wr.cell? ⟨b, o + k * 7 + 1, none⟩ = some (.string nm) := hcr 1 (by omega)
        have c2 : wr.cell? ⟨b, o + k * 7 + 2, none⟩ = some (.int .i64 pl) := hcr 2 (by omega)
        have c3 : wr.cell? ⟨b, o + k * 7 + 3, none⟩ = some (.slice ia ins.length ic) := hcr 3 (by omega)
        have c4 : wr.cell? ⟨b, o + k * 7 + 4, none⟩ = some (.slice oa outs.length oc) := hcr 4 (by omega)
        have c5 : wr.cell? ⟨b, o + k * 7 + 5, none⟩ = some (.slice va vars.length vc) := hcr 5 (by omega)
        have c6 : wr.cell? ⟨b, o + k * 7 + 6, none⟩ = some (.slice qa eqs.length qc) := hcr 6 (by omega)
        have e1 : W1.cell? ⟨wr.heap.size, 1, none⟩ = some (.string nm) := hcW1 1 (by omega)
        have e3 : W1.cell? ⟨wr.heap.size, 3, none⟩ = some (.slice ia ins.length ic) := hcW1 3 (by omega)
        have e4 : W1.cell? ⟨wr.heap.size, 4, none⟩ = some (.slice oa outs.length oc) := hcW1 4 (by omega)
        have e5 : W1.cell? ⟨wr.heap.size, 5, none⟩ = some (.slice va vars.length vc) := hcW1 5 (by omega)
        have e6 : W1.cell? ⟨wr.heap.size, 6, none⟩ = some (.slice qa eqs.length qc) := hcW1 6 (by omega)
        have v0 : W1.cell? ⟨w.heap.size, 0, none⟩ = some (.slice (some ⟨b, o, none⟩) n cap) := (hbW1.cell (p := ⟨w.heap.size, 0, none⟩) HSz.out).trans hx0
        simp only at HQs HQL hqn hnm
        obtain ⟨m, hM⟩ : ∃ m, m = eqs.length := ⟨_, rfl⟩
        have HM : Hid (m = eqs.length) := hM
        simp only [Nd.cells, List.toArray] at hW1
        simp only [← hM] at hW1 c6 e6 hqn
        have HW1 : Hid _ := hW1
        have HX1 : Hid (Below (w.heap.size + 1) W0 W1) := HX.out.trans (hbW1.mono HSz.out)
        have HB1 : Hid (Below w.heap.size w W1.drew) := Below.drew (HB.out.trans (hbW1.mono HB.out.size))
        clear hcr hrow hM hW1 hbW1 hcW1
        go_wp2_with fail
        rw [← HW1.out]
        generalize hB1 : wr.heap.size = B1 at *
        clear c0 c1 c2 c3 c4 c5 c6 HW1
        go_region_held3 (fun w' => Hid (Below w.heap.size w w') ∧ w'.cell? ⟨B1, 1, none⟩ = some (.string nm) ∧ w'.cell? ⟨B1, 3, none⟩ = some (.slice ia ins.length ic) ∧ w'.cell? ⟨B1, 4, none⟩ = some (.slice oa outs.length oc) ∧ w'.cell? ⟨B1, 5, none⟩ = some (.slice va vars.length vc)) (go_simp) (first
          | (go_at_call 37; refine (ParIs.out (by assumption) _ (by assumption)).mono ?_; rintro r w5 ⟨⟨i5, rfl⟩, rfl⟩))
        have HX1d : Hid (Below (w.heap.size + 1) W0 W1.drew) := Below.drew HX1.out
        have v0d : W1.drew.cell? ⟨w.heap.size, 0, none⟩ = some (.slice (some ⟨b, o, none⟩) n cap) := v0
        have e6d : W1.drew.cell? ⟨B1, 6, none⟩ = some (.slice qa m qc) := e6
        clear e1 e3 e4 e5 P1 P2 P3
        go_wp2_with fail
        go_loopw [3, 6] (fun s i wq => ∃ (j : Nat) (x : Int), j ≤ m ∧ i = .int .i64 j ∧ s = .int .i64 x ∧ Hid (Below (w.heap.size + 1) W0 wq) ∧ wq.cell? ⟨w.heap.size, 0, none⟩ = some (.slice (some ⟨b, o, none⟩) n cap) ∧ wq.cell? ⟨B1, 6, none⟩ = some (.slice qa m qc)) (fun _ i _ => m - (intOf i).toNat)
        case atStart => exact ⟨0, _, by omega, rfl, rfl, HX1d, v0d, e6d⟩
        case round =>
          obtain ⟨j, x2, hj, rfl, rfl, HXq, hv0, he6⟩ := hrel
          have HBq : Hid (Below w.heap.size w wr) := HB0.out.trans (HXq.out.mono (by omega))
          by_cases hjl : j < m
          · by_cases hx2 : x2 ≤ 8192
            · have hjk : j < eqs.length := by rw [← HM.out]; exact hjl
              obtain ⟨b', o', rfl, hbl', hrow'⟩ := HQL.out.1 (by intro h; rw [h] at hjk; simp at hjk)
              have HCx : Hid (∀ W, Below w.heap.size w W → ∀ i, i < 8 → W.cell? ⟨b', o' + j * 8 + i, none⟩ = eqs[j].cells[i]?) := fun W h i hi => (h.cell (p := ⟨b', o' + j * 8 + i, none⟩) hbl').trans (hrow' j hjk i hi)
              have HGq := HQs.out _ (List.getElem_mem hjk)
              have HLq := HQL.out.2 _ (List.getElem_mem hjk)
              have C1 := weight_calls eqs[j].e.size eqs[j].e (Nat.le_refl _) HGq.2.2.2 wr (lies_below HBq.out _ HLq.2)
              have HNS : Hid (rowIn textOf 1 w eqs[j].na eqs[j].ns) := HLq.1
              have HGS : Hid (∀ s ∈ eqs[j].ns, s.size ≤ 1048576) := HGq.1
              have hnn : eqs[j].ns.length ≤ 1048576 := HGq.2.1
              clear HGq HLq hrow'
              generalize eqs[j] = y at *
              obtain ⟨na1, nc1, ns1, pq1, e1⟩ := y
              simp only at C1 HNS HGS hnn
              generalize e1.weigh = z1 at *
              obtain ⟨kd1, pl1, nm1, it1, dn1, a1, cap1, l1⟩ := e1
              obtain ⟨p, hP⟩ : ∃ p, p = ns1.length := ⟨_, rfl⟩
              have HP : Hid (p = ns1.length) := hP
              rw [← hP] at hnn
              have HNC : Hid (∀ W, Below w.heap.size w W → W.cell? ⟨b', o' + j * 8, none⟩ = some (.slice na1 p nc1)) := fun W h => by rw [hP]; exact HCx.out W h 0 (by omega)
              clear hP
              have d2 : wr.cell? ⟨b', o' + j * 8 + 2, none⟩ = some (.int .u8 kd1) := HCx.out wr HBq.out 2 (by omega)
              have d3 : wr.cell? ⟨b', o' + j * 8 + 2 + 1, none⟩ = some (.int .i64 pl1) := HCx.out wr HBq.out 3 (by omega)
              have d4 : wr.cell? ⟨b', o' + j * 8 + 2 + 2, none⟩ = some (.string nm1) := HCx.out wr HBq.out 4 (by omega)
              have d5 : wr.cell? ⟨b', o' + j * 8 + 2 + 3, none⟩ = some (.int .i64 it1) := HCx.out wr HBq.out 5 (by omega)
              have d6 : wr.cell? ⟨b', o' + j * 8 + 2 + 4, none⟩ = some (.int .i64 dn1) := HCx.out wr HBq.out 6 (by omega)
              have d7 : wr.cell? ⟨b', o' + j * 8 + 2 + 5, none⟩ = some (.slice a1 l1.length cap1) := HCx.out wr HBq.out 7 (by omega)
              simp only [Ex.val, Ex.cells, List.toArray] at C1
              go_wp2_with fail
              refine C1.mono ?_
              rintro x7 w7 ⟨rfl, hb7⟩
              have HX7 : Hid (Below (w.heap.size + 1) W0 w7) := HXq.out.trans (hb7.mono (by have h1 := HXq.out.size; have h2 := HS0.out; omega))
              have HB7 : Hid (Below w.heap.size w w7) := HBq.out.trans (hb7.mono HBq.out.size)
              have hv7 : w7.cell? ⟨w.heap.size, 0, none⟩ = some (.slice (some ⟨b, o, none⟩) n cap) := (hb7.cell (p := ⟨w.heap.size, 0, none⟩) (World.block_lt_of_cell? wr ⟨w.heap.size, 0, none⟩ hv0)).trans hv0
              have he7 : w7.cell? ⟨B1, 6, none⟩ = some (.slice (some ⟨b', o', none⟩) m qc) := (hb7.cell (p := ⟨B1, 6, none⟩) (World.block_lt_of_cell? wr ⟨B1, 6, none⟩ he6)).trans he6
              have hd0 := HNC.out w7 HB7.out
              clear C1 hb7 d2 d3 d4 d5 d6 d7 hv0 he6 HXq HBq
              go_wp2_with fail
              go_loopw [3, 7] (fun s i wq => ∃ (t : Nat) (x : Int), t ≤ p ∧ i = .int .i64 t ∧ s = .int .i64 x ∧ wq = w7) (fun _ i _ => p - (intOf i).toNat)
              case atStart => exact ⟨0, _, by omega, rfl, rfl, rfl⟩
              case round =>
                obtain ⟨t, x3, ht, rfl, rfl, rfl⟩ := hrel
                by_cases htp : t < p
                · by_cases hx3 : x3 ≤ 8192
                  · have htk : t < ns1.length := by rw [← HP.out]; exact htp
                    obtain ⟨b2, o2, rfl, hbl2, hrow2⟩ := HNS.out (by intro h; rw [h] at htk; simp at htk)
                    have c0 : wr.cell? ⟨b2, o2 + t, none⟩ = some (.string ns1[t]) := by
                      have := hrow2 t htk 0 (by omega)
                      rw [Nat.mul_one, Nat.add_zero] at this
                      exact (HB7.out.cell (p := ⟨b2, o2 + t, none⟩) hbl2).trans this
                    clear hrow2
                    go_wp2_with fail
                    all_goals
                      (go_roundw
                       case rel => exact ⟨t + 1, _, by omega, by go_num, rfl, by first | rfl | trivial⟩
                       case measure => simp [intOf]; omega)
                  · go_wp2_with fail
                    all_goals
                      (go_roundw
                       case rel => exact ⟨j + 1, _, by omega, by go_num, rfl, HX7, hv7, he7⟩
                       case measure => simp [intOf]; omega)
                · obtain rfl : t = p := by omega
                  go_wp2_with fail
                  all_goals
                    (go_roundw
                     case rel => exact ⟨j + 1, _, by omega, by go_num, rfl, HX7, hv7, he7⟩
                     case measure => simp [intOf]; omega)
            · go_wp2_with fail
              all_goals
                (go_roundw
                 case rel => exact ⟨k + 1, _, by omega, by go_num, rfl, HXq, hv0⟩
                 case measure => simp [intOf]; omega)
          · obtain rfl : j = m := by omega
            go_wp2_with fail
            all_goals
              (go_roundw
               case rel => exact ⟨k + 1, _, by omega, by go_num, rfl, HXq, hv0⟩
               case measure => simp [intOf]; omega)
      · go_wp2_with fail
        go_ret
        exact ⟨⟨_, rfl⟩, HB.out⟩
    · obtain rfl : k = n := by omega
      go_wp2_with fail
      all_goals go_ret
      all_goals exact ⟨⟨_, rfl⟩, HB.out⟩
end Go.Proofs.YthbjagmlcemefaaDoor
