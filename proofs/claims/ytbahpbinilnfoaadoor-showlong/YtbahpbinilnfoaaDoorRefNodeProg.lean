/- The document's answer of layer 5: node. -/
import Derived.Test.YtbahpbinilnfoaaDoorRefPms
import Derived.Test.YtbahpbinilnfoaaDoorRefTextAll
import Derived.Test.YtbahpbinilnfoaaDoorShowNodes
import Derived.Test.YtbahpbinilnfoaaDoorRefMayAll
namespace Go.Proofs.YtbahpbinilnfoaaDoor
open Go.RowKit
open Ex.size Ex.depth Ex.lies Ex.bulk Ex.good Ex.shape Ex.text
attribute [local go_sem] later_size later_cell later_frozen later_setCell later_drew later_drewN later_tape drewN_setCell drewN_alloc drewN_later later_later lt_more lt_more1 lt_more2 lt_more3 lt_more4 lk0_0_1 lk1_0_1 lk2_0_1 lk0_0_2 lk1_0_2 lk2_0_2 lk0_1_2 lk0_0_3 lk1_0_3 lk2_0_3 lk0_1_3 lk0_2_3 lk0_0_4 lk1_0_4 lk2_0_4 lk0_1_4 lk0_2_4 lk0_3_4 lk0_0_5 lk1_0_5 lk2_0_5 lk0_1_5 lk0_2_5 lk0_3_5 lk0_4_5 lk0_0_6 lk1_0_6 lk2_0_6 lk0_1_6 lk0_2_6 lk0_3_6 lk0_4_6 lk0_5_6 lk0_0_7 lk1_0_7 lk2_0_7 lk0_1_7 lk0_2_7 lk0_3_7 lk0_4_7 lk0_5_7 lk0_6_7
def RPms (l : List Pm) (a : Option Addr) (c : Nat) : Prop := ∀ w, rowIn Pm.cells 7 w a l → Calls Tryd.prog 29 #[.slice a l.length c] w fun r w' => r = .returned (.string ⟨(pmsText l).toArray⟩) ∧ Below w.heap.size w w'
/-- The names ahead of an equation's sign, put together one by one. -/
def joinTo (ns : List ByteArray) (k : Nat) : List UInt8 := between [44, 32] ((ns.take k).map (·.data.toList))
theorem join_at (ns : List ByteArray) (k : Nat) (h0 : 0 < k) (h : k < ns.length) : joinTo ns (k + 1) = joinTo ns k ++ [44, 32] ++ ns[k].data.toList := by
  have h1 := between_at [44, 32] (ns.map (·.data.toList)) k (by simpa using h)
  rw [if_pos h0] at h1
  simp only [← List.map_take, List.getElem_map] at h1
  exact h1
theorem join_one1 (x : ByteArray) (r : List ByteArray) : joinTo (x :: r) 1 = x.data.toList := by simp [joinTo, between, rests]
theorem join_le (ns : List ByteArray) (k : Nat) : (joinTo ns k).length ≤ (between [44, 32] (ns.map (·.data.toList))).length := by
  have := between_len_take [44, 32] (ns.map (·.data.toList)) k
  rw [← List.map_take] at this
  exact this
theorem left_join (ns : List ByteArray) : leftOf ns = if ns.length = 1 then joinTo ns ns.length else [40] ++ joinTo ns ns.length ++ [41] := by
  unfold leftOf joinTo
  rw [List.take_length]
set_option maxRecDepth 100000 in
set_option maxHeartbeats 25600000 in
theorem node_ref_00 {nm : ByteArray} {pl : Int} {ia oa va qa : Option Addr} {ic oc vc qc : Nat} {ins outs : List Pm} {eqs : List Eqn} (hin : RPms ins ia ic) (hout : RPms outs oa oc) (hn : eqs.length ≤ 1048576) (hq : ∀ q ∈ eqs, RText q.e ∧ 1 ≤ q.ns.length ∧ q.ns.length ≤ 32) (hlen : (Nd.text ⟨false, nm, pl, ia, ic, ins, oa, oc, outs, va, vc, [], qa, qc, eqs⟩).length ≤ 1000000000) (w : World) (hl : Nd.lies w ⟨false, nm, pl, ia, ic, ins, oa, oc, outs, va, vc, [], qa, qc, eqs⟩) :
    Calls Tryd.prog 14 #[Nd.val ⟨false, nm, pl, ia, ic, ins, oa, oc, outs, va, vc, [], qa, qc, eqs⟩] w fun r w' => r = .returned (.string ⟨(Nd.text ⟨false, nm, pl, ia, ic, ins, oa, oc, outs, va, vc, [], qa, qc, eqs⟩).toArray⟩) ∧ Below w.heap.size w w' := by
  obtain ⟨hl1, hl2, hl3, hl4, hl5⟩ := hl
  obtain ⟨ts, hts⟩ : ∃ ts, ts = eqs.map Eqn.text := ⟨_, rfl⟩
  have HTS : Hid _ := hts
  obtain ⟨I, hI⟩ : ∃ I, I = pmsText ins := ⟨_, rfl⟩
  obtain ⟨O, hO⟩ : ∃ O, O = pmsText outs := ⟨_, rfl⟩
  obtain ⟨T1, hT1⟩ : ∃ T : List UInt8, T = [110, 111, 100, 101, 32] ++ nm.data.toList := ⟨_, rfl⟩
  obtain ⟨T2, hT2⟩ : ∃ T : List UInt8, T = T1 ++ [40] := ⟨_, rfl⟩
  obtain ⟨T3, hT3⟩ : ∃ T : List UInt8, T = T2 ++ I := ⟨_, rfl⟩
  obtain ⟨T4, hT4⟩ : ∃ T : List UInt8, T = T3 ++ [41, 32, 114, 101, 116, 117, 114, 110, 115, 32, 40] := ⟨_, rfl⟩
  obtain ⟨T5, hT5⟩ : ∃ T : List UInt8, T = T4 ++ O := ⟨_, rfl⟩
  obtain ⟨T6, hT6⟩ : ∃ T : List UInt8, T = T5 ++ [41, 10] := ⟨_, rfl⟩
  obtain ⟨L1, hL1⟩ : ∃ T : List UInt8, T = T6 ++ [108, 101, 116, 10] := ⟨_, rfl⟩
  have HT : Hid (Nd.text ⟨false, nm, pl, ia, ic, ins, oa, oc, outs, va, vc, [], qa, qc, eqs⟩ = (L1 ++ ts.flatten) ++ [116, 101, 108, 10]) := by
    rw [Hid, hts, hL1, hT6, hT5, hT4, hT3, hT2, hT1, hI, hO, Nd.text]
    simp [eqsText]
  rw [HT.out] at hlen ⊢
  have HLe : Hid (((L1 ++ ts.flatten) ++ [116, 101, 108, 10]).length ≤ 1000000000) := hlen
  have hLl : L1.length ≤ 1000000000 := by simp only [List.length_append] at hlen; omega
  have lT1 : T1.length = ([110, 111, 100, 101, 32] : List UInt8).length + (nm.data.toList : List UInt8).length := by rw [hT1, List.length_append]
  have lT2 : T2.length = (T1 : List UInt8).length + ([40] : List UInt8).length := by rw [hT2, List.length_append]
  have lT3 : T3.length = (T2 : List UInt8).length + (I : List UInt8).length := by rw [hT3, List.length_append]
  have lT4 : T4.length = (T3 : List UInt8).length + ([41, 32, 114, 101, 116, 117, 114, 110, 115, 32, 40] : List UInt8).length := by rw [hT4, List.length_append]
  have lT5 : T5.length = (T4 : List UInt8).length + (O : List UInt8).length := by rw [hT5, List.length_append]
  have lT6 : T6.length = (T5 : List UInt8).length + ([41, 10] : List UInt8).length := by rw [hT6, List.length_append]
  have lL1 : L1.length = (T6 : List UInt8).length + ([108, 101, 116, 10] : List UInt8).length := by rw [hL1, List.length_append]
  simp only [List.length_cons, List.length_nil] at lT1 lT2 lT4 lT6 lL1
  have s0 : ∀ W, (Op.stringOp .add ⟨#[110, 111, 100, 101, 32]⟩ nm).run Tryd.prog W = .ok (.string ⟨T1.toArray⟩) W := fun W => by rw [hT1]; exact add_name W [110, 111, 100, 101, 32] nm (by simp only [List.length_cons, List.length_nil]; omega)
  have s1 : ∀ W, (Op.stringOp .add ⟨T1.toArray⟩ ⟨#[40]⟩).run Tryd.prog W = .ok (.string ⟨T2.toArray⟩) W := fun W => by rw [hT2]; exact add_text W T1 [40] (by simp only [List.length_cons, List.length_nil]; omega)
  have s2 : ∀ W, (Op.stringOp .add ⟨T2.toArray⟩ ⟨I.toArray⟩).run Tryd.prog W = .ok (.string ⟨T3.toArray⟩) W := fun W => by rw [hT3]; exact add_text W T2 I (by omega)
  have s3 : ∀ W, (Op.stringOp .add ⟨T3.toArray⟩ ⟨#[41, 32, 114, 101, 116, 117, 114, 110, 115, 32, 40]⟩).run Tryd.prog W = .ok (.string ⟨T4.toArray⟩) W := fun W => by rw [hT4]; exact add_text W T3 [41, 32, 114, 101, 116, 117, 114, 110, 115, 32, 40] (by simp only [List.length_cons, List.length_nil]; omega)
  have s4 : ∀ W, (Op.stringOp .add ⟨T4.toArray⟩ ⟨O.toArray⟩).run Tryd.prog W = .ok (.string ⟨T5.toArray⟩) W := fun W => by rw [hT5]; exact add_text W T4 O (by omega)
  have s5 : ∀ W, (Op.stringOp .add ⟨T5.toArray⟩ ⟨#[41, 10]⟩).run Tryd.prog W = .ok (.string ⟨T6.toArray⟩) W := fun W => by rw [hT6]; exact add_text W T5 [41, 10] (by simp only [List.length_cons, List.length_nil]; omega)
  have s6 : ∀ W, (Op.stringOp .add ⟨T6.toArray⟩ ⟨#[108, 101, 116, 10]⟩).run Tryd.prog W = .ok (.string ⟨L1.toArray⟩) W := fun W => by rw [hL1]; exact add_text W T6 [108, 101, 116, 10] (by simp only [List.length_cons, List.length_nil]; omega)
  obtain ⟨n, hn2⟩ : ∃ n, n = eqs.length := ⟨_, rfl⟩
  obtain ⟨n1, hn3⟩ : ∃ n, n = ins.length := ⟨_, rfl⟩
  obtain ⟨n2, hn4⟩ : ∃ n, n = outs.length := ⟨_, rfl⟩
  obtain ⟨W0, hW0⟩ : ∃ W0 : World, W0 = w.alloc (.cells #[.bool false, .string nm, .int .i64 pl, .slice ia n1 ic, .slice oa n2 oc, .slice va 0 vc, .slice qa n qc] 37) := ⟨_, rfl⟩
  have hb0 : Below w.heap.size w W0 := by rw [hW0]; exact (Below.refl _ _).alloc (Nat.le_refl _) _
  have hs0 : W0.heap.size = w.heap.size + 1 := by rw [hW0]; simp
  have hbx : W0.heap[w.heap.size]? = some (.cells #[.bool false, .string nm, .int .i64 pl, .slice ia n1 ic, .slice oa n2 oc, .slice va 0 vc, .slice qa n qc] 37 (0, 0)) := by rw [hW0]; exact heap_at rfl
  have up : ∀ w', Hid (Below W0.heap.size W0 w') → Below w.heap.size w w' := fun w' h => hb0.trans (h.out.mono (by omega))
  have C1 : TextIs W0 29 #[.slice ia n1 ic] I := ⟨fun w' h => by rw [hI, hn3]; exact hin w' (rowIn_below hl1 (up w' h))⟩
  have C2 : TextIs W0 29 #[.slice oa n2 oc] O := ⟨fun w' h => by rw [hO, hn4]; exact hout w' (rowIn_below hl2 (up w' h))⟩
  have B1 : Hid _ := keep_cell (show W0.cell? ⟨w.heap.size, 1, none⟩ = some (.string nm) by rw [cell_of_row hbx]; rfl)
  have B3 : Hid _ := keep_cell (show W0.cell? ⟨w.heap.size, 3, none⟩ = some (.slice ia n1 ic) by rw [cell_of_row hbx]; rfl)
  have B4 : Hid _ := keep_cell (show W0.cell? ⟨w.heap.size, 4, none⟩ = some (.slice oa n2 oc) by rw [cell_of_row hbx]; rfl)
  have B5 : Hid _ := keep_cell (show W0.cell? ⟨w.heap.size, 5, none⟩ = some (.slice va 0 vc) by rw [cell_of_row hbx]; rfl)
  have B6 : Hid _ := keep_cell (show W0.cell? ⟨w.heap.size, 6, none⟩ = some (.slice qa n qc) by rw [cell_of_row hbx]; rfl)
  have HN : Hid (n = eqs.length) := hn2
  have HLen : Hid (ts.length = n) := by rw [Hid, hts, List.length_map, hn2]
  have HQ : Hid _ := hq
  have HL4 : Hid _ := hl4
  have HL5 : Hid _ := hl5
  have HUp : Hid _ := up
  have HE0 : Hid _ := hW0
  have HB0 : Hid _ := hb0
  have HS0 : Hid _ := hs0
  have hnb : n ≤ 1048576 := by rw [hn2]; exact hn
  simp only [Nd.val, Nd.cells, List.toArray, List.length_nil, ← hn2, ← hn3, ← hn4]
  have HBz : Hid (Below W0.heap.size W0 W0) := Below.refl _ _
  have f1 := B1.out W0 HBz
  have f3 := B3.out W0 HBz
  have f4 := B4.out W0 HBz
  have hwl : w.heap.size < W0.heap.size := by omega
  clear hts hI hO  hn2 hn3 hn4 hl1 hl2 hl3 hl4 hl5 hW0 hb0 hs0 hbx up hin hout hq hlen hn hT1 hT2 hT3 hT4 hT5 hT6 hL1 lT1 lT2 lT3 lT4 lT5 lT6 lL1
  clear hLl
  go_enter Tryd.func14, Tryd.ntmps14
  go_wp2_with fail
  rw [← HE0.out]
  have HBd : Hid (Below W0.heap.size W0 W0.drew) := ((Gr.refl W0).drew).below
  have g1 := B1.out W0.drew HBd
  have g3 := B3.out W0.drew HBd
  have g4 := B4.out W0.drew HBd
  go_region_held3 (fun w' => w'.cell? ⟨w.heap.size, 1, none⟩ = some (.string nm) ∧ w'.cell? ⟨w.heap.size, 3, none⟩ = some (.slice ia n1 ic) ∧ w'.cell? ⟨w.heap.size, 4, none⟩ = some (.slice oa n2 oc)) (go_simp) ((refine Calls.mono (TextIs.out (W0 := W0) (by assumption) _ (by assumption)) ?_; rintro r w5 ⟨rfl, hb5⟩; have hB5 := grow_on (W := W0) (by assumption) hb5; have m1 := B1.out w5 hB5; have m3 := B3.out w5 hB5; have m4 := B4.out w5 hB5; have m5 := B5.out w5 hB5; have m6 := B6.out w5 hB5; clear hb5))
  go_wp2_with fail
  go_loopw [3, 4] (fun s i wr => ∃ k : Nat, k ≤ n ∧ i = .int .i64 k ∧ s = .string ⟨(L1 ++ (ts.take k).flatten).toArray⟩ ∧ Hid (Below W0.heap.size W0 wr)) (fun _ i _ => n - (intOf i).toNat)
  case atStart => exact ⟨0, by omega, rfl, by simp, hB5⟩
  case round =>
    obtain ⟨k, hk, rfl, rfl, HB⟩ := hrel
    have b6 := B6.out wr HB
    by_cases hlt : k < n
    · have hkl : k < eqs.length := by rw [← HN.out]; exact hlt
      have hkt : k < ts.length := by rw [HLen.out]; exact hlt
      obtain ⟨bA, oA, rfl, hbA, hrow⟩ := HL4.out (by intro h; rw [h] at hkl; simp at hkl)
      have hcr := old_cells (n := 8) (HUp.out wr HB) hbA (fun j hj => hrow k hkl j hj)
      obtain ⟨hns, hle⟩ := HL5.out eqs[k] (List.getElem_mem hkl)
      obtain ⟨hRT, q1, q2⟩ := HQ.out eqs[k] (List.getElem_mem hkl)
      obtain ⟨bN, oN, hna, hbN, hnm⟩ := names_row hns (by intro h; rw [h] at q1; simp at q1)
      have CT := hRT wr (lies_below (HUp.out wr HB) _ hle)
      have HF : Hid ((ts.take (k + 1)).flatten = (ts.take k).flatten ++ ts[k]) := flat_at2 _ _ hkt
      have hx : ts[k] = eqs[k].text := by simp [HTS.out]
      have hbl : (L1 ++ (ts.take (k + 1)).flatten).length ≤ 1000000000 := by
        have h1 := HLe.out
        have h2 : ts.flatten = (ts.take (k + 1)).flatten ++ (ts.drop (k + 1)).flatten := by rw [← List.flatten_append, List.take_append_drop]
        rw [h2] at h1
        simp only [List.length_append] at h1 ⊢
        omega
      obtain ⟨Z0, hZ0⟩ : ∃ S, S = L1 ++ (ts.take k).flatten := ⟨_, rfl⟩
      obtain ⟨ZZ, hZZ⟩ : ∃ S, S = L1 ++ (ts.take (k + 1)).flatten := ⟨_, rfl⟩
      have HZZ : Hid _ := hZZ
      rw [← hZ0]
      rw [HF.out, hx, ← List.append_assoc, ← hZ0, eqn_text, left_join] at hZZ
      rw [← HZZ.out] at hbl
      have HNames : Hid (∀ i (hi : i < eqs[k].ns.length), wr.cell? ⟨bN, oN + i, none⟩ = some (.string eqs[k].ns[i])) := fun i hi => ((HUp.out wr HB).cell (p := ⟨bN, oN + i, none⟩) hbN).trans (hnm i hi)
      have hLJ : (joinTo eqs[k].ns eqs[k].ns.length).length + 2 ≤ 1000000000 := by
        rw [hZZ] at hbl
        split at hbl <;> simp only [List.length_append, List.length_cons, List.length_nil] at hbl <;> omega
      have HJl : Hid (∀ j, j ≤ eqs[k].ns.length → (joinTo eqs[k].ns j).length ≤ 1000000000) := fun j hj => by
        have := join_le eqs[k].ns j
        unfold joinTo at hLJ ⊢
        rw [List.take_length] at hLJ
        unfold joinTo at this
        omega
      generalize eqs[k] = x at *
      obtain ⟨nax, ncx, nsx, plx, e⟩ := x
      obtain ⟨X, hX⟩ : ∃ X, X = e.text := ⟨_, rfl⟩
      simp only at hns hna q1 q2 hZZ CT HNames hLJ HJl
      simp only [← hX] at CT hZZ
      obtain ⟨ln, hln⟩ : ∃ ln, ln = nsx.length := ⟨_, rfl⟩
      have HLN : Hid _ := hln
      have HZ1 : Hid (ZZ = Z0 ++ ([32, 32] ++ ((if ln = 1 then joinTo nsx ln else [40] ++ joinTo nsx ln ++ [41]) ++ [32, 61, 32]) ++ (X ++ [59, 10]))) := by rw [Hid, hln]; exact hZZ
      have HLJ : Hid ((joinTo nsx ln).length + 2 ≤ 1000000000) := by rw [Hid, hln]; exact hLJ
      have HBL : Hid (ZZ.length ≤ 1000000000) := hbl
      have hl1 : 1 ≤ ln := by rw [hln]; exact q1
      have hl2 : ln ≤ 32 := by rw [hln]; exact q2
      obtain rfl := hna
      obtain ⟨kx, px, nx, ix, dx, ax, cx, qx⟩ := e
      obtain ⟨lx, hlx⟩ : ∃ lx, lx = qx.length := ⟨_, rfl⟩
      simp only [Eqn.cells, Ex.val, Ex.cells, List.toArray, ← hlx, ← hln] at CT hcr
      have d0 : wr.cell? ⟨bA, oA + k * 8, none⟩ = some (.slice (some ⟨bN, oN, none⟩) ln ncx) := hcr 0 (by omega)
      have d2 : wr.cell? ⟨bA, oA + k * 8 + 2, none⟩ = some (.int .u8 kx) := hcr 2 (by omega)
      have d3 : wr.cell? ⟨bA, oA + k * 8 + 2 + 1, none⟩ = some (.int .i64 px) := hcr 3 (by omega)
      have d4 : wr.cell? ⟨bA, oA + k * 8 + 2 + 2, none⟩ = some (.string nx) := hcr 4 (by omega)
      have d5 : wr.cell? ⟨bA, oA + k * 8 + 2 + 3, none⟩ = some (.int .i64 ix) := hcr 5 (by omega)
      have d6 : wr.cell? ⟨bA, oA + k * 8 + 2 + 4, none⟩ = some (.int .i64 dx) := hcr 6 (by omega)
      have d7 : wr.cell? ⟨bA, oA + k * 8 + 2 + 5, none⟩ = some (.slice ax lx cx) := hcr 7 (by omega)
      obtain ⟨x0, rx, hx0⟩ : ∃ x r, nsx = x :: r := by cases nsx with | nil => simp at q1 | cons x r => exact ⟨x, r, rfl⟩
      have n0 : wr.cell? ⟨bN, oN, none⟩ = some (.string x0) := by have := HNames.out 0 (by omega); simpa [hx0] using this
      have HJ1 : Hid (joinTo nsx 1 = x0.data.toList) := by rw [Hid, hx0]; exact join_one1 x0 rx
      clear hZZ hZ0 hbl hLJ hX hlx hcr hrow hns hle hRT q1 q2 hnm hx HF hkl hkt hbA hx0
      go_wp2_with fail
      have HBw : Hid (Below W0.heap.size W0 wr) := HB
      have HSw : Hid (W0.heap.size ≤ wr.heap.size) := HB.out.size
      go_loopw [6, 7] (fun s i w2 => ∃ j : Nat, 1 ≤ j ∧ j ≤ ln ∧ i = .int .i64 j ∧ s = .string ⟨(joinTo nsx j).toArray⟩ ∧ w2 = wr) (fun _ i _ => ln - (intOf i).toNat)
      case atStart => exact ⟨1, Nat.le_refl _, hl1, rfl, by rw [HJ1.out], rfl⟩
      case round =>
        obtain ⟨j, hj1, hj2, rfl, rfl, hw2⟩ := hrel
        subst hw2
        by_cases hjl : j < ln
        · have hjn : j < nsx.length := by rw [← HLN.out]; exact hjl
          have hnj := HNames.out j hjn
          have HJs : Hid (joinTo nsx (j + 1) = joinTo nsx j ++ [44, 32] ++ nsx[j].data.toList) := join_at nsx j hj1 hjn
          have hbj : (joinTo nsx (j + 1)).length ≤ 1000000000 := HJl.out (j + 1) (by rw [← HLN.out]; omega)
          generalize nsx[j] = nj at hnj HJs
          obtain ⟨J0, hJ0⟩ : ∃ J, J = joinTo nsx j := ⟨_, rfl⟩
          rw [HJs.out, ← hJ0] at hbj
          have HJ0 : Hid _ := hJ0
          rw [← hJ0]
          obtain ⟨J1, hJ1⟩ : ∃ T : List UInt8, T = J0 ++ [44, 32] := ⟨_, rfl⟩
          obtain ⟨J2, hJ2⟩ : ∃ T : List UInt8, T = J1 ++ nj.data.toList := ⟨_, rfl⟩
          have HJ2 : Hid (joinTo nsx (j + 1) = J2) := by rw [Hid, HJs.out, hJ2, hJ1, HJ0.out]
          rw [← hJ1, ← hJ2] at hbj
          have lJ1 : J1.length = (J0 : List UInt8).length + ([44, 32] : List UInt8).length := by rw [hJ1, List.length_append]
          have lJ2 : J2.length = (J1 : List UInt8).length + (nj.data.toList : List UInt8).length := by rw [hJ2, List.length_append]
          simp only [List.length_cons, List.length_nil] at lJ1
          have t0 : ∀ W, (Op.stringOp .add ⟨J0.toArray⟩ ⟨#[44, 32]⟩).run Tryd.prog W = .ok (.string ⟨J1.toArray⟩) W := fun W => by rw [hJ1]; exact add_text W J0 [44, 32] (by simp only [List.length_cons, List.length_nil]; omega)
          have t1 : ∀ W, (Op.stringOp .add ⟨J1.toArray⟩ nj).run Tryd.prog W = .ok (.string ⟨J2.toArray⟩) W := fun W => by rw [hJ2]; exact add_name W J1 nj (by omega)
          clear hJ0 hbj hjn hJ1 hJ2 lJ1 lJ2
          go_wp2_with fail
          go_roundw
          case rel => exact ⟨j + 1, by omega, by omega, by go_num, by rw [HJ2.out], trivial⟩
          case measure => simp [intOf]; omega
        · obtain rfl : j = ln := by omega
          clear hjl
          obtain ⟨M, hM⟩ : ∃ M, M = joinTo nsx j := ⟨_, rfl⟩
          rw [← hM]
          have HMl : Hid (M.length + 2 ≤ 1000000000) := by rw [Hid, hM]; exact HLJ.out
          have HM : Hid _ := hM
          clear hM
          by_cases h1 : j = 1
          · obtain ⟨Q1, hQ1⟩ : ∃ T : List UInt8, T = Z0 ++ [32, 32] := ⟨_, rfl⟩
            obtain ⟨Q2, hQ2⟩ : ∃ T : List UInt8, T = Q1 ++ M := ⟨_, rfl⟩
            obtain ⟨Q3, hQ3⟩ : ∃ T : List UInt8, T = Q2 ++ [32, 61, 32] := ⟨_, rfl⟩
            obtain ⟨Q4, hQ4⟩ : ∃ T : List UInt8, T = Q3 ++ X := ⟨_, rfl⟩
            obtain ⟨Q5, hQ5⟩ : ∃ T : List UInt8, T = Q4 ++ [59, 10] := ⟨_, rfl⟩
            have HQ5 : Hid (ZZ = Q5) := by
              rw [Hid, HZ1.out, if_pos h1, hQ5, hQ4, hQ3, hQ2, hQ1, HM.out]
              simp
            have hb5 : Q5.length ≤ 1000000000 := by rw [← HQ5.out]; exact HBL.out
            have lQ1 : Q1.length = (Z0 : List UInt8).length + ([32, 32] : List UInt8).length := by rw [hQ1, List.length_append]
            have lQ2 : Q2.length = (Q1 : List UInt8).length + (M : List UInt8).length := by rw [hQ2, List.length_append]
            have lQ3 : Q3.length = (Q2 : List UInt8).length + ([32, 61, 32] : List UInt8).length := by rw [hQ3, List.length_append]
            have lQ4 : Q4.length = (Q3 : List UInt8).length + (X : List UInt8).length := by rw [hQ4, List.length_append]
            have lQ5 : Q5.length = (Q4 : List UInt8).length + ([59, 10] : List UInt8).length := by rw [hQ5, List.length_append]
            simp only [List.length_cons, List.length_nil] at lQ1 lQ3 lQ5
            have q0 : ∀ W, (Op.stringOp .add ⟨Z0.toArray⟩ ⟨#[32, 32]⟩).run Tryd.prog W = .ok (.string ⟨Q1.toArray⟩) W := fun W => by rw [hQ1]; exact add_text W Z0 [32, 32] (by simp only [List.length_cons, List.length_nil]; omega)
            have q1 : ∀ W, (Op.stringOp .add ⟨Q1.toArray⟩ ⟨M.toArray⟩).run Tryd.prog W = .ok (.string ⟨Q2.toArray⟩) W := fun W => by rw [hQ2]; exact add_text W Q1 M (by omega)
            have q2 : ∀ W, (Op.stringOp .add ⟨Q2.toArray⟩ ⟨#[32, 61, 32]⟩).run Tryd.prog W = .ok (.string ⟨Q3.toArray⟩) W := fun W => by rw [hQ3]; exact add_text W Q2 [32, 61, 32] (by simp only [List.length_cons, List.length_nil]; omega)
            have q3 : ∀ W, (Op.stringOp .add ⟨Q3.toArray⟩ ⟨X.toArray⟩).run Tryd.prog W = .ok (.string ⟨Q4.toArray⟩) W := fun W => by rw [hQ4]; exact add_text W Q3 X (by omega)
            have q4 : ∀ W, (Op.stringOp .add ⟨Q4.toArray⟩ ⟨#[59, 10]⟩).run Tryd.prog W = .ok (.string ⟨Q5.toArray⟩) W := fun W => by rw [hQ5]; exact add_text W Q4 [59, 10] (by simp only [List.length_cons, List.length_nil]; omega)
            clear hb5  hQ1 hQ2 hQ3 hQ4 hQ5 lQ1 lQ2 lQ3 lQ4 lQ5
            go_wp2_with fail
            refine Calls.mono CT ?_
            rintro r w7 ⟨rfl, hb7⟩
            have HB7 : Hid (Below W0.heap.size W0 w7) := HBw.out.trans (hb7.mono HSw.out)
            clear hb7
            go_wp2_with fail
            go_roundw
            case rel => exact ⟨k + 1, by omega, by go_num, by rw [← HZZ.out, HQ5.out], HB7⟩
            case measure => simp [intOf]; omega
          · have h1b : 1 < j := by omega
            obtain ⟨P1, hP1⟩ : ∃ T : List UInt8, T = [40] ++ M := ⟨_, rfl⟩
            obtain ⟨P2, hP2⟩ : ∃ T : List UInt8, T = P1 ++ [41] := ⟨_, rfl⟩
            have lM := HMl.out
            have lP1 : P1.length = 1 + M.length := by rw [hP1, List.length_append]; rfl
            have lP2 : P2.length = (P1 : List UInt8).length + ([41] : List UInt8).length := by rw [hP2, List.length_append]
            simp only [List.length_cons, List.length_nil] at lP2
            have p0 : ∀ W, (Op.stringOp .add ⟨#[40]⟩ ⟨M.toArray⟩).run Tryd.prog W = .ok (.string ⟨P1.toArray⟩) W := fun W => by rw [hP1]; exact add_text W [40] M (by simp only [List.length_cons, List.length_nil]; omega)
            have p1 : ∀ W, (Op.stringOp .add ⟨P1.toArray⟩ ⟨#[41]⟩).run Tryd.prog W = .ok (.string ⟨P2.toArray⟩) W := fun W => by rw [hP2]; exact add_text W P1 [41] (by simp only [List.length_cons, List.length_nil]; omega)
            obtain ⟨Q1, hQ1⟩ : ∃ T : List UInt8, T = Z0 ++ [32, 32] := ⟨_, rfl⟩
            obtain ⟨Q2, hQ2⟩ : ∃ T : List UInt8, T = Q1 ++ P2 := ⟨_, rfl⟩
            obtain ⟨Q3, hQ3⟩ : ∃ T : List UInt8, T = Q2 ++ [32, 61, 32] := ⟨_, rfl⟩
            obtain ⟨Q4, hQ4⟩ : ∃ T : List UInt8, T = Q3 ++ X := ⟨_, rfl⟩
            obtain ⟨Q5, hQ5⟩ : ∃ T : List UInt8, T = Q4 ++ [59, 10] := ⟨_, rfl⟩
            have HQ5 : Hid (ZZ = Q5) := by
              rw [Hid, HZ1.out, if_neg h1, hQ5, hQ4, hQ3, hQ2, hQ1, hP2, hP1, HM.out]
              simp
            have hb5 : Q5.length ≤ 1000000000 := by rw [← HQ5.out]; exact HBL.out
            have lQ1 : Q1.length = (Z0 : List UInt8).length + ([32, 32] : List UInt8).length := by rw [hQ1, List.length_append]
            have lQ2 : Q2.length = (Q1 : List UInt8).length + (P2 : List UInt8).length := by rw [hQ2, List.length_append]
            have lQ3 : Q3.length = (Q2 : List UInt8).length + ([32, 61, 32] : List UInt8).length := by rw [hQ3, List.length_append]
            have lQ4 : Q4.length = (Q3 : List UInt8).length + (X : List UInt8).length := by rw [hQ4, List.length_append]
            have lQ5 : Q5.length = (Q4 : List UInt8).length + ([59, 10] : List UInt8).length := by rw [hQ5, List.length_append]
            simp only [List.length_cons, List.length_nil] at lQ1 lQ3 lQ5
            have q0 : ∀ W, (Op.stringOp .add ⟨Z0.toArray⟩ ⟨#[32, 32]⟩).run Tryd.prog W = .ok (.string ⟨Q1.toArray⟩) W := fun W => by rw [hQ1]; exact add_text W Z0 [32, 32] (by simp only [List.length_cons, List.length_nil]; omega)
            have q1 : ∀ W, (Op.stringOp .add ⟨Q1.toArray⟩ ⟨P2.toArray⟩).run Tryd.prog W = .ok (.string ⟨Q2.toArray⟩) W := fun W => by rw [hQ2]; exact add_text W Q1 P2 (by omega)
            have q2 : ∀ W, (Op.stringOp .add ⟨Q2.toArray⟩ ⟨#[32, 61, 32]⟩).run Tryd.prog W = .ok (.string ⟨Q3.toArray⟩) W := fun W => by rw [hQ3]; exact add_text W Q2 [32, 61, 32] (by simp only [List.length_cons, List.length_nil]; omega)
            have q3 : ∀ W, (Op.stringOp .add ⟨Q3.toArray⟩ ⟨X.toArray⟩).run Tryd.prog W = .ok (.string ⟨Q4.toArray⟩) W := fun W => by rw [hQ4]; exact add_text W Q3 X (by omega)
            have q4 : ∀ W, (Op.stringOp .add ⟨Q4.toArray⟩ ⟨#[59, 10]⟩).run Tryd.prog W = .ok (.string ⟨Q5.toArray⟩) W := fun W => by rw [hQ5]; exact add_text W Q4 [59, 10] (by simp only [List.length_cons, List.length_nil]; omega)
            clear hb5 hP1 hP2 lM lP1 lP2 hQ1 hQ2 hQ3 hQ4 hQ5 lQ1 lQ2 lQ3 lQ4 lQ5
            go_wp2_with fail
            refine Calls.mono CT ?_
            rintro r w7 ⟨rfl, hb7⟩
            have HB7 : Hid (Below W0.heap.size W0 w7) := HBw.out.trans (hb7.mono HSw.out)
            clear hb7
            go_wp2_with fail
            go_roundw
            case rel => exact ⟨k + 1, by omega, by go_num, by rw [← HZZ.out, HQ5.out], HB7⟩
            case measure => simp [intOf]; omega
    · obtain rfl : k = n := by omega
      have HE : Hid ((ts.take k).flatten = ts.flatten) := by rw [Hid, ← HLen.out, List.take_length]
      rw [HE.out]
      obtain ⟨R0, hR0⟩ : ∃ R, R = L1 ++ ts.flatten := ⟨_, rfl⟩
      have HR0 : Hid _ := hR0
      have hRl : R0.length + 4 ≤ 1000000000 := by have := HLe.out; rw [← hR0, List.length_append] at this; exact this
      rw [← hR0]
      have tl : ∀ W, (Op.stringOp .add ⟨R0.toArray⟩ ⟨#[116, 101, 108, 10]⟩).run Tryd.prog W = .ok (.string ⟨(R0 ++ [116, 101, 108, 10]).toArray⟩) W := fun W => add_text W R0 [116, 101, 108, 10] (by simp only [List.length_cons, List.length_nil]; omega)
      clear hR0 hRl
      go_wp2_with fail
      go_ret
      exact ⟨by rw [← HR0.out]; rfl, HUp.out wr HB⟩
set_option maxRecDepth 100000 in
set_option maxHeartbeats 25600000 in
theorem node_ref_01 {nm : ByteArray} {pl : Int} {ia oa va qa : Option Addr} {ic oc vc qc : Nat} {ins outs vars : List Pm} {eqs : List Eqn} (hin : RPms ins ia ic) (hout : RPms outs oa oc) (hvar : RPms vars va vc) (hv0 : vars ≠ []) (hvn : vars.length ≤ 1048576) (hn : eqs.length ≤ 1048576) (hq : ∀ q ∈ eqs, RText q.e ∧ 1 ≤ q.ns.length ∧ q.ns.length ≤ 32) (hlen : (Nd.text ⟨false, nm, pl, ia, ic, ins, oa, oc, outs, va, vc, vars, qa, qc, eqs⟩).length ≤ 1000000000) (w : World) (hl : Nd.lies w ⟨false, nm, pl, ia, ic, ins, oa, oc, outs, va, vc, vars, qa, qc, eqs⟩) :
    Calls Tryd.prog 14 #[Nd.val ⟨false, nm, pl, ia, ic, ins, oa, oc, outs, va, vc, vars, qa, qc, eqs⟩] w fun r w' => r = .returned (.string ⟨(Nd.text ⟨false, nm, pl, ia, ic, ins, oa, oc, outs, va, vc, vars, qa, qc, eqs⟩).toArray⟩) ∧ Below w.heap.size w w' := by
  obtain ⟨hl1, hl2, hl3, hl4, hl5⟩ := hl
  obtain ⟨ts, hts⟩ : ∃ ts, ts = eqs.map Eqn.text := ⟨_, rfl⟩
  have HTS : Hid _ := hts
  obtain ⟨I, hI⟩ : ∃ I, I = pmsText ins := ⟨_, rfl⟩
  obtain ⟨O, hO⟩ : ∃ O, O = pmsText outs := ⟨_, rfl⟩
  obtain ⟨V, hV⟩ : ∃ V, V = pmsText vars := ⟨_, rfl⟩
  obtain ⟨T1, hT1⟩ : ∃ T : List UInt8, T = [110, 111, 100, 101, 32] ++ nm.data.toList := ⟨_, rfl⟩
  obtain ⟨T2, hT2⟩ : ∃ T : List UInt8, T = T1 ++ [40] := ⟨_, rfl⟩
  obtain ⟨T3, hT3⟩ : ∃ T : List UInt8, T = T2 ++ I := ⟨_, rfl⟩
  obtain ⟨T4, hT4⟩ : ∃ T : List UInt8, T = T3 ++ [41, 32, 114, 101, 116, 117, 114, 110, 115, 32, 40] := ⟨_, rfl⟩
  obtain ⟨T5, hT5⟩ : ∃ T : List UInt8, T = T4 ++ O := ⟨_, rfl⟩
  obtain ⟨T6, hT6⟩ : ∃ T : List UInt8, T = T5 ++ [41, 10] := ⟨_, rfl⟩
  obtain ⟨V1, hV1⟩ : ∃ T : List UInt8, T = T6 ++ [118, 97, 114, 32] := ⟨_, rfl⟩
  obtain ⟨V2, hV2⟩ : ∃ T : List UInt8, T = V1 ++ V := ⟨_, rfl⟩
  obtain ⟨V3, hV3⟩ : ∃ T : List UInt8, T = V2 ++ [59, 10] := ⟨_, rfl⟩
  obtain ⟨L1, hL1⟩ : ∃ T : List UInt8, T = V3 ++ [108, 101, 116, 10] := ⟨_, rfl⟩
  have HT : Hid (Nd.text ⟨false, nm, pl, ia, ic, ins, oa, oc, outs, va, vc, vars, qa, qc, eqs⟩ = (L1 ++ ts.flatten) ++ [116, 101, 108, 10]) := by
    rw [Hid, hts, hL1, hV3, hV2, hV1, hT6, hT5, hT4, hT3, hT2, hT1, hV, hI, hO, Nd.text, if_neg hv0]
    simp [eqsText]
  rw [HT.out] at hlen ⊢
  have HLe : Hid (((L1 ++ ts.flatten) ++ [116, 101, 108, 10]).length ≤ 1000000000) := hlen
  have hLl : L1.length ≤ 1000000000 := by simp only [List.length_append] at hlen; omega
  have lT1 : T1.length = ([110, 111, 100, 101, 32] : List UInt8).length + (nm.data.toList : List UInt8).length := by rw [hT1, List.length_append]
  have lT2 : T2.length = (T1 : List UInt8).length + ([40] : List UInt8).length := by rw [hT2, List.length_append]
  have lT3 : T3.length = (T2 : List UInt8).length + (I : List UInt8).length := by rw [hT3, List.length_append]
  have lT4 : T4.length = (T3 : List UInt8).length + ([41, 32, 114, 101, 116, 117, 114, 110, 115, 32, 40] : List UInt8).length := by rw [hT4, List.length_append]
  have lT5 : T5.length = (T4 : List UInt8).length + (O : List UInt8).length := by rw [hT5, List.length_append]
  have lT6 : T6.length = (T5 : List UInt8).length + ([41, 10] : List UInt8).length := by rw [hT6, List.length_append]
  have lV1 : V1.length = (T6 : List UInt8).length + ([118, 97, 114, 32] : List UInt8).length := by rw [hV1, List.length_append]
  have lV2 : V2.length = (V1 : List UInt8).length + (V : List UInt8).length := by rw [hV2, List.length_append]
  have lV3 : V3.length = (V2 : List UInt8).length + ([59, 10] : List UInt8).length := by rw [hV3, List.length_append]
  have lL1 : L1.length = (V3 : List UInt8).length + ([108, 101, 116, 10] : List UInt8).length := by rw [hL1, List.length_append]
  simp only [List.length_cons, List.length_nil] at lT1 lT2 lT4 lT6 lV1 lV3 lL1
  have s0 : ∀ W, (Op.stringOp .add ⟨#[110, 111, 100, 101, 32]⟩ nm).run Tryd.prog W = .ok (.string ⟨T1.toArray⟩) W := fun W => by rw [hT1]; exact add_name W [110, 111, 100, 101, 32] nm (by simp only [List.length_cons, List.length_nil]; omega)
  have s1 : ∀ W, (Op.stringOp .add ⟨T1.toArray⟩ ⟨#[40]⟩).run Tryd.prog W = .ok (.string ⟨T2.toArray⟩) W := fun W => by rw [hT2]; exact add_text W T1 [40] (by simp only [List.length_cons, List.length_nil]; omega)
  have s2 : ∀ W, (Op.stringOp .add ⟨T2.toArray⟩ ⟨I.toArray⟩).run Tryd.prog W = .ok (.string ⟨T3.toArray⟩) W := fun W => by rw [hT3]; exact add_text W T2 I (by omega)
  have s3 : ∀ W, (Op.stringOp .add ⟨T3.toArray⟩ ⟨#[41, 32, 114, 101, 116, 117, 114, 110, 115, 32, 40]⟩).run Tryd.prog W = .ok (.string ⟨T4.toArray⟩) W := fun W => by rw [hT4]; exact add_text W T3 [41, 32, 114, 101, 116, 117, 114, 110, 115, 32, 40] (by simp only [List.length_cons, List.length_nil]; omega)
  have s4 : ∀ W, (Op.stringOp .add ⟨T4.toArray⟩ ⟨O.toArray⟩).run Tryd.prog W = .ok (.string ⟨T5.toArray⟩) W := fun W => by rw [hT5]; exact add_text W T4 O (by omega)
  have s5 : ∀ W, (Op.stringOp .add ⟨T5.toArray⟩ ⟨#[41, 10]⟩).run Tryd.prog W = .ok (.string ⟨T6.toArray⟩) W := fun W => by rw [hT6]; exact add_text W T5 [41, 10] (by simp only [List.length_cons, List.length_nil]; omega)
  have s6 : ∀ W, (Op.stringOp .add ⟨T6.toArray⟩ ⟨#[118, 97, 114, 32]⟩).run Tryd.prog W = .ok (.string ⟨V1.toArray⟩) W := fun W => by rw [hV1]; exact add_text W T6 [118, 97, 114, 32] (by simp only [List.length_cons, List.length_nil]; omega)
  have s7 : ∀ W, (Op.stringOp .add ⟨V1.toArray⟩ ⟨V.toArray⟩).run Tryd.prog W = .ok (.string ⟨V2.toArray⟩) W := fun W => by rw [hV2]; exact add_text W V1 V (by omega)
  have s8 : ∀ W, (Op.stringOp .add ⟨V2.toArray⟩ ⟨#[59, 10]⟩).run Tryd.prog W = .ok (.string ⟨V3.toArray⟩) W := fun W => by rw [hV3]; exact add_text W V2 [59, 10] (by simp only [List.length_cons, List.length_nil]; omega)
  have s9 : ∀ W, (Op.stringOp .add ⟨V3.toArray⟩ ⟨#[108, 101, 116, 10]⟩).run Tryd.prog W = .ok (.string ⟨L1.toArray⟩) W := fun W => by rw [hL1]; exact add_text W V3 [108, 101, 116, 10] (by simp only [List.length_cons, List.length_nil]; omega)
  obtain ⟨n, hn2⟩ : ∃ n, n = eqs.length := ⟨_, rfl⟩
  obtain ⟨n1, hn3⟩ : ∃ n, n = ins.length := ⟨_, rfl⟩
  obtain ⟨n2, hn4⟩ : ∃ n, n = outs.length := ⟨_, rfl⟩
  obtain ⟨n3, hn5⟩ : ∃ n, n = vars.length := ⟨_, rfl⟩
  have hpos : 0 < n3 := by rw [hn5]; exact List.length_pos_iff.2 hv0
  have hn3b : n3 ≤ 1048576 := by rw [hn5]; exact hvn
  obtain ⟨W0, hW0⟩ : ∃ W0 : World, W0 = w.alloc (.cells #[.bool false, .string nm, .int .i64 pl, .slice ia n1 ic, .slice oa n2 oc, .slice va n3 vc, .slice qa n qc] 37) := ⟨_, rfl⟩
  have hb0 : Below w.heap.size w W0 := by rw [hW0]; exact (Below.refl _ _).alloc (Nat.le_refl _) _
  have hs0 : W0.heap.size = w.heap.size + 1 := by rw [hW0]; simp
  have hbx : W0.heap[w.heap.size]? = some (.cells #[.bool false, .string nm, .int .i64 pl, .slice ia n1 ic, .slice oa n2 oc, .slice va n3 vc, .slice qa n qc] 37 (0, 0)) := by rw [hW0]; exact heap_at rfl
  have up : ∀ w', Hid (Below W0.heap.size W0 w') → Below w.heap.size w w' := fun w' h => hb0.trans (h.out.mono (by omega))
  have C1 : TextIs W0 29 #[.slice ia n1 ic] I := ⟨fun w' h => by rw [hI, hn3]; exact hin w' (rowIn_below hl1 (up w' h))⟩
  have C2 : TextIs W0 29 #[.slice oa n2 oc] O := ⟨fun w' h => by rw [hO, hn4]; exact hout w' (rowIn_below hl2 (up w' h))⟩
  have C3 : TextIs W0 29 #[.slice va n3 vc] V := ⟨fun w' h => by rw [hV, hn5]; exact hvar w' (rowIn_below hl3 (up w' h))⟩
  have B1 : Hid _ := keep_cell (show W0.cell? ⟨w.heap.size, 1, none⟩ = some (.string nm) by rw [cell_of_row hbx]; rfl)
  have B3 : Hid _ := keep_cell (show W0.cell? ⟨w.heap.size, 3, none⟩ = some (.slice ia n1 ic) by rw [cell_of_row hbx]; rfl)
  have B4 : Hid _ := keep_cell (show W0.cell? ⟨w.heap.size, 4, none⟩ = some (.slice oa n2 oc) by rw [cell_of_row hbx]; rfl)
  have B5 : Hid _ := keep_cell (show W0.cell? ⟨w.heap.size, 5, none⟩ = some (.slice va n3 vc) by rw [cell_of_row hbx]; rfl)
  have B6 : Hid _ := keep_cell (show W0.cell? ⟨w.heap.size, 6, none⟩ = some (.slice qa n qc) by rw [cell_of_row hbx]; rfl)
  have HN : Hid (n = eqs.length) := hn2
  have HLen : Hid (ts.length = n) := by rw [Hid, hts, List.length_map, hn2]
  have HQ : Hid _ := hq
  have HL4 : Hid _ := hl4
  have HL5 : Hid _ := hl5
  have HUp : Hid _ := up
  have HE0 : Hid _ := hW0
  have HB0 : Hid _ := hb0
  have HS0 : Hid _ := hs0
  have hnb : n ≤ 1048576 := by rw [hn2]; exact hn
  simp only [Nd.val, Nd.cells, List.toArray, ← hn2, ← hn3, ← hn4, ← hn5]
  have HBz : Hid (Below W0.heap.size W0 W0) := Below.refl _ _
  have f1 := B1.out W0 HBz
  have f3 := B3.out W0 HBz
  have f4 := B4.out W0 HBz
  have hwl : w.heap.size < W0.heap.size := by omega
  clear hts hI hO hV hn5 hvar hv0 hvn hn2 hn3 hn4 hl1 hl2 hl3 hl4 hl5 hW0 hb0 hs0 hbx up hin hout hq hlen hn hT1 hT2 hT3 hT4 hT5 hT6 hV1 hV2 hV3 hL1 lT1 lT2 lT3 lT4 lT5 lT6 lV1 lV2 lV3 lL1
  clear hLl
  go_enter Tryd.func14, Tryd.ntmps14
  go_wp2_with fail
  rw [← HE0.out]
  have HBd : Hid (Below W0.heap.size W0 W0.drew) := ((Gr.refl W0).drew).below
  have g1 := B1.out W0.drew HBd
  have g3 := B3.out W0.drew HBd
  have g4 := B4.out W0.drew HBd
  go_region_held3 (fun w' => w'.cell? ⟨w.heap.size, 1, none⟩ = some (.string nm) ∧ w'.cell? ⟨w.heap.size, 3, none⟩ = some (.slice ia n1 ic) ∧ w'.cell? ⟨w.heap.size, 4, none⟩ = some (.slice oa n2 oc)) (go_simp) ((refine Calls.mono (TextIs.out (W0 := W0) (by assumption) _ (by assumption)) ?_; rintro r w5 ⟨rfl, hb5⟩; have hB5 := grow_on (W := W0) (by assumption) hb5; have m1 := B1.out w5 hB5; have m3 := B3.out w5 hB5; have m4 := B4.out w5 hB5; have m5 := B5.out w5 hB5; have m6 := B6.out w5 hB5; clear hb5))
  go_wp2_with fail
  refine Calls.mono (C3.out _ hB5) ?_
  rintro r w6 ⟨rfl, hb6⟩
  have hB6 := grow_on (W := W0) hB5 hb6
  have p6 := B6.out w6 hB6
  clear hb6
  go_wp2_with fail
  go_loopw [3, 4] (fun s i wr => ∃ k : Nat, k ≤ n ∧ i = .int .i64 k ∧ s = .string ⟨(L1 ++ (ts.take k).flatten).toArray⟩ ∧ Hid (Below W0.heap.size W0 wr)) (fun _ i _ => n - (intOf i).toNat)
  case atStart => exact ⟨0, by omega, rfl, by simp, hB6⟩
  case round =>
    obtain ⟨k, hk, rfl, rfl, HB⟩ := hrel
    have b6 := B6.out wr HB
    by_cases hlt : k < n
    · have hkl : k < eqs.length := by rw [← HN.out]; exact hlt
      have hkt : k < ts.length := by rw [HLen.out]; exact hlt
      obtain ⟨bA, oA, rfl, hbA, hrow⟩ := HL4.out (by intro h; rw [h] at hkl; simp at hkl)
      have hcr := old_cells (n := 8) (HUp.out wr HB) hbA (fun j hj => hrow k hkl j hj)
      obtain ⟨hns, hle⟩ := HL5.out eqs[k] (List.getElem_mem hkl)
      obtain ⟨hRT, q1, q2⟩ := HQ.out eqs[k] (List.getElem_mem hkl)
      obtain ⟨bN, oN, hna, hbN, hnm⟩ := names_row hns (by intro h; rw [h] at q1; simp at q1)
      have CT := hRT wr (lies_below (HUp.out wr HB) _ hle)
      have HF : Hid ((ts.take (k + 1)).flatten = (ts.take k).flatten ++ ts[k]) := flat_at2 _ _ hkt
      have hx : ts[k] = eqs[k].text := by simp [HTS.out]
      have hbl : (L1 ++ (ts.take (k + 1)).flatten).length ≤ 1000000000 := by
        have h1 := HLe.out
        have h2 : ts.flatten = (ts.take (k + 1)).flatten ++ (ts.drop (k + 1)).flatten := by rw [← List.flatten_append, List.take_append_drop]
        rw [h2] at h1
        simp only [List.length_append] at h1 ⊢
        omega
      obtain ⟨Z0, hZ0⟩ : ∃ S, S = L1 ++ (ts.take k).flatten := ⟨_, rfl⟩
      obtain ⟨ZZ, hZZ⟩ : ∃ S, S = L1 ++ (ts.take (k + 1)).flatten := ⟨_, rfl⟩
      have HZZ : Hid _ := hZZ
      rw [← hZ0]
      rw [HF.out, hx, ← List.append_assoc, ← hZ0, eqn_text, left_join] at hZZ
      rw [← HZZ.out] at hbl
      have HNames : Hid (∀ i (hi : i < eqs[k].ns.length), wr.cell? ⟨bN, oN + i, none⟩ = some (.string eqs[k].ns[i])) := fun i hi => ((HUp.out wr HB).cell (p := ⟨bN, oN + i, none⟩) hbN).trans (hnm i hi)
      have hLJ : (joinTo eqs[k].ns eqs[k].ns.length).length + 2 ≤ 1000000000 := by
        rw [hZZ] at hbl
        split at hbl <;> simp only [List.length_append, List.length_cons, List.length_nil] at hbl <;> omega
      have HJl : Hid (∀ j, j ≤ eqs[k].ns.length → (joinTo eqs[k].ns j).length ≤ 1000000000) := fun j hj => by
        have := join_le eqs[k].ns j
        unfold joinTo at hLJ ⊢
        rw [List.take_length] at hLJ
        unfold joinTo at this
        omega
      generalize eqs[k] = x at *
      obtain ⟨nax, ncx, nsx, plx, e⟩ := x
      obtain ⟨X, hX⟩ : ∃ X, X = e.text := ⟨_, rfl⟩
      simp only at hns hna q1 q2 hZZ CT HNames hLJ HJl
      simp only [← hX] at CT hZZ
      obtain ⟨ln, hln⟩ : ∃ ln, ln = nsx.length := ⟨_, rfl⟩
      have HLN : Hid _ := hln
      have HZ1 : Hid (ZZ = Z0 ++ ([32, 32] ++ ((if ln = 1 then joinTo nsx ln else [40] ++ joinTo nsx ln ++ [41]) ++ [32, 61, 32]) ++ (X ++ [59, 10]))) := by rw [Hid, hln]; exact hZZ
      have HLJ : Hid ((joinTo nsx ln).length + 2 ≤ 1000000000) := by rw [Hid, hln]; exact hLJ
      have HBL : Hid (ZZ.length ≤ 1000000000) := hbl
      have hl1 : 1 ≤ ln := by rw [hln]; exact q1
      have hl2 : ln ≤ 32 := by rw [hln]; exact q2
      obtain rfl := hna
      obtain ⟨kx, px, nx, ix, dx, ax, cx, qx⟩ := e
      obtain ⟨lx, hlx⟩ : ∃ lx, lx = qx.length := ⟨_, rfl⟩
      simp only [Eqn.cells, Ex.val, Ex.cells, List.toArray, ← hlx, ← hln] at CT hcr
      have d0 : wr.cell? ⟨bA, oA + k * 8, none⟩ = some (.slice (some ⟨bN, oN, none⟩) ln ncx) := hcr 0 (by omega)
      have d2 : wr.cell? ⟨bA, oA + k * 8 + 2, none⟩ = some (.int .u8 kx) := hcr 2 (by omega)
      have d3 : wr.cell? ⟨bA, oA + k * 8 + 2 + 1, none⟩ = some (.int .i64 px) := hcr 3 (by omega)
      have d4 : wr.cell? ⟨bA, oA + k * 8 + 2 + 2, none⟩ = some (.string nx) := hcr 4 (by omega)
      have d5 : wr.cell? ⟨bA, oA + k * 8 + 2 + 3, none⟩ = some (.int .i64 ix) := hcr 5 (by omega)
      have d6 : wr.cell? ⟨bA, oA + k * 8 + 2 + 4, none⟩ = some (.int .i64 dx) := hcr 6 (by omega)
      have d7 : wr.cell? ⟨bA, oA + k * 8 + 2 + 5, none⟩ = some (.slice ax lx cx) := hcr 7 (by omega)
      obtain ⟨x0, rx, hx0⟩ : ∃ x r, nsx = x :: r := by cases nsx with | nil => simp at q1 | cons x r => exact ⟨x, r, rfl⟩
      have n0 : wr.cell? ⟨bN, oN, none⟩ = some (.string x0) := by have := HNames.out 0 (by omega); simpa [hx0] using this
      have HJ1 : Hid (joinTo nsx 1 = x0.data.toList) := by rw [Hid, hx0]; exact join_one1 x0 rx
      clear hZZ hZ0 hbl hLJ hX hlx hcr hrow hns hle hRT q1 q2 hnm hx HF hkl hkt hbA hx0
      go_wp2_with fail
      have HBw : Hid (Below W0.heap.size W0 wr) := HB
      have HSw : Hid (W0.heap.size ≤ wr.heap.size) := HB.out.size
      go_loopw [6, 7] (fun s i w2 => ∃ j : Nat, 1 ≤ j ∧ j ≤ ln ∧ i = .int .i64 j ∧ s = .string ⟨(joinTo nsx j).toArray⟩ ∧ w2 = wr) (fun _ i _ => ln - (intOf i).toNat)
      case atStart => exact ⟨1, Nat.le_refl _, hl1, rfl, by rw [HJ1.out], rfl⟩
      case round =>
        obtain ⟨j, hj1, hj2, rfl, rfl, hw2⟩ := hrel
        subst hw2
        by_cases hjl : j < ln
        · have hjn : j < nsx.length := by rw [← HLN.out]; exact hjl
          have hnj := HNames.out j hjn
          have HJs : Hid (joinTo nsx (j + 1) = joinTo nsx j ++ [44, 32] ++ nsx[j].data.toList) := join_at nsx j hj1 hjn
          have hbj : (joinTo nsx (j + 1)).length ≤ 1000000000 := HJl.out (j + 1) (by rw [← HLN.out]; omega)
          generalize nsx[j] = nj at hnj HJs
          obtain ⟨J0, hJ0⟩ : ∃ J, J = joinTo nsx j := ⟨_, rfl⟩
          rw [HJs.out, ← hJ0] at hbj
          have HJ0 : Hid _ := hJ0
          rw [← hJ0]
          obtain ⟨J1, hJ1⟩ : ∃ T : List UInt8, T = J0 ++ [44, 32] := ⟨_, rfl⟩
          obtain ⟨J2, hJ2⟩ : ∃ T : List UInt8, T = J1 ++ nj.data.toList := ⟨_, rfl⟩
          have HJ2 : Hid (joinTo nsx (j + 1) = J2) := by rw [Hid, HJs.out, hJ2, hJ1, HJ0.out]
          rw [← hJ1, ← hJ2] at hbj
          have lJ1 : J1.length = (J0 : List UInt8).length + ([44, 32] : List UInt8).length := by rw [hJ1, List.length_append]
          have lJ2 : J2.length = (J1 : List UInt8).length + (nj.data.toList : List UInt8).length := by rw [hJ2, List.length_append]
          simp only [List.length_cons, List.length_nil] at lJ1
          have t0 : ∀ W, (Op.stringOp .add ⟨J0.toArray⟩ ⟨#[44, 32]⟩).run Tryd.prog W = .ok (.string ⟨J1.toArray⟩) W := fun W => by rw [hJ1]; exact add_text W J0 [44, 32] (by simp only [List.length_cons, List.length_nil]; omega)
          have t1 : ∀ W, (Op.stringOp .add ⟨J1.toArray⟩ nj).run Tryd.prog W = .ok (.string ⟨J2.toArray⟩) W := fun W => by rw [hJ2]; exact add_name W J1 nj (by omega)
          clear hJ0 hbj hjn hJ1 hJ2 lJ1 lJ2
          go_wp2_with fail
          go_roundw
          case rel => exact ⟨j + 1, by omega, by omega, by go_num, by rw [HJ2.out], trivial⟩
          case measure => simp [intOf]; omega
        · obtain rfl : j = ln := by omega
          clear hjl
          obtain ⟨M, hM⟩ : ∃ M, M = joinTo nsx j := ⟨_, rfl⟩
          rw [← hM]
          have HMl : Hid (M.length + 2 ≤ 1000000000) := by rw [Hid, hM]; exact HLJ.out
          have HM : Hid _ := hM
          clear hM
          by_cases h1 : j = 1
          · obtain ⟨Q1, hQ1⟩ : ∃ T : List UInt8, T = Z0 ++ [32, 32] := ⟨_, rfl⟩
            obtain ⟨Q2, hQ2⟩ : ∃ T : List UInt8, T = Q1 ++ M := ⟨_, rfl⟩
            obtain ⟨Q3, hQ3⟩ : ∃ T : List UInt8, T = Q2 ++ [32, 61, 32] := ⟨_, rfl⟩
            obtain ⟨Q4, hQ4⟩ : ∃ T : List UInt8, T = Q3 ++ X := ⟨_, rfl⟩
            obtain ⟨Q5, hQ5⟩ : ∃ T : List UInt8, T = Q4 ++ [59, 10] := ⟨_, rfl⟩
            have HQ5 : Hid (ZZ = Q5) := by
              rw [Hid, HZ1.out, if_pos h1, hQ5, hQ4, hQ3, hQ2, hQ1, HM.out]
              simp
            have hb5 : Q5.length ≤ 1000000000 := by rw [← HQ5.out]; exact HBL.out
            have lQ1 : Q1.length = (Z0 : List UInt8).length + ([32, 32] : List UInt8).length := by rw [hQ1, List.length_append]
            have lQ2 : Q2.length = (Q1 : List UInt8).length + (M : List UInt8).length := by rw [hQ2, List.length_append]
            have lQ3 : Q3.length = (Q2 : List UInt8).length + ([32, 61, 32] : List UInt8).length := by rw [hQ3, List.length_append]
            have lQ4 : Q4.length = (Q3 : List UInt8).length + (X : List UInt8).length := by rw [hQ4, List.length_append]
            have lQ5 : Q5.length = (Q4 : List UInt8).length + ([59, 10] : List UInt8).length := by rw [hQ5, List.length_append]
            simp only [List.length_cons, List.length_nil] at lQ1 lQ3 lQ5
            have q0 : ∀ W, (Op.stringOp .add ⟨Z0.toArray⟩ ⟨#[32, 32]⟩).run Tryd.prog W = .ok (.string ⟨Q1.toArray⟩) W := fun W => by rw [hQ1]; exact add_text W Z0 [32, 32] (by simp only [List.length_cons, List.length_nil]; omega)
            have q1 : ∀ W, (Op.stringOp .add ⟨Q1.toArray⟩ ⟨M.toArray⟩).run Tryd.prog W = .ok (.string ⟨Q2.toArray⟩) W := fun W => by rw [hQ2]; exact add_text W Q1 M (by omega)
            have q2 : ∀ W, (Op.stringOp .add ⟨Q2.toArray⟩ ⟨#[32, 61, 32]⟩).run Tryd.prog W = .ok (.string ⟨Q3.toArray⟩) W := fun W => by rw [hQ3]; exact add_text W Q2 [32, 61, 32] (by simp only [List.length_cons, List.length_nil]; omega)
            have q3 : ∀ W, (Op.stringOp .add ⟨Q3.toArray⟩ ⟨X.toArray⟩).run Tryd.prog W = .ok (.string ⟨Q4.toArray⟩) W := fun W => by rw [hQ4]; exact add_text W Q3 X (by omega)
            have q4 : ∀ W, (Op.stringOp .add ⟨Q4.toArray⟩ ⟨#[59, 10]⟩).run Tryd.prog W = .ok (.string ⟨Q5.toArray⟩) W := fun W => by rw [hQ5]; exact add_text W Q4 [59, 10] (by simp only [List.length_cons, List.length_nil]; omega)
            clear hb5  hQ1 hQ2 hQ3 hQ4 hQ5 lQ1 lQ2 lQ3 lQ4 lQ5
            go_wp2_with fail
            refine Calls.mono CT ?_
            rintro r w7 ⟨rfl, hb7⟩
            have HB7 : Hid (Below W0.heap.size W0 w7) := HBw.out.trans (hb7.mono HSw.out)
            clear hb7
            go_wp2_with fail
            go_roundw
            case rel => exact ⟨k + 1, by omega, by go_num, by rw [← HZZ.out, HQ5.out], HB7⟩
            case measure => simp [intOf]; omega
          · have h1b : 1 < j := by omega
            obtain ⟨P1, hP1⟩ : ∃ T : List UInt8, T = [40] ++ M := ⟨_, rfl⟩
            obtain ⟨P2, hP2⟩ : ∃ T : List UInt8, T = P1 ++ [41] := ⟨_, rfl⟩
            have lM := HMl.out
            have lP1 : P1.length = 1 + M.length := by rw [hP1, List.length_append]; rfl
            have lP2 : P2.length = (P1 : List UInt8).length + ([41] : List UInt8).length := by rw [hP2, List.length_append]
            simp only [List.length_cons, List.length_nil] at lP2
            have p0 : ∀ W, (Op.stringOp .add ⟨#[40]⟩ ⟨M.toArray⟩).run Tryd.prog W = .ok (.string ⟨P1.toArray⟩) W := fun W => by rw [hP1]; exact add_text W [40] M (by simp only [List.length_cons, List.length_nil]; omega)
            have p1 : ∀ W, (Op.stringOp .add ⟨P1.toArray⟩ ⟨#[41]⟩).run Tryd.prog W = .ok (.string ⟨P2.toArray⟩) W := fun W => by rw [hP2]; exact add_text W P1 [41] (by simp only [List.length_cons, List.length_nil]; omega)
            obtain ⟨Q1, hQ1⟩ : ∃ T : List UInt8, T = Z0 ++ [32, 32] := ⟨_, rfl⟩
            obtain ⟨Q2, hQ2⟩ : ∃ T : List UInt8, T = Q1 ++ P2 := ⟨_, rfl⟩
            obtain ⟨Q3, hQ3⟩ : ∃ T : List UInt8, T = Q2 ++ [32, 61, 32] := ⟨_, rfl⟩
            obtain ⟨Q4, hQ4⟩ : ∃ T : List UInt8, T = Q3 ++ X := ⟨_, rfl⟩
            obtain ⟨Q5, hQ5⟩ : ∃ T : List UInt8, T = Q4 ++ [59, 10] := ⟨_, rfl⟩
            have HQ5 : Hid (ZZ = Q5) := by
              rw [Hid, HZ1.out, if_neg h1, hQ5, hQ4, hQ3, hQ2, hQ1, hP2, hP1, HM.out]
              simp
            have hb5 : Q5.length ≤ 1000000000 := by rw [← HQ5.out]; exact HBL.out
            have lQ1 : Q1.length = (Z0 : List UInt8).length + ([32, 32] : List UInt8).length := by rw [hQ1, List.length_append]
            have lQ2 : Q2.length = (Q1 : List UInt8).length + (P2 : List UInt8).length := by rw [hQ2, List.length_append]
            have lQ3 : Q3.length = (Q2 : List UInt8).length + ([32, 61, 32] : List UInt8).length := by rw [hQ3, List.length_append]
            have lQ4 : Q4.length = (Q3 : List UInt8).length + (X : List UInt8).length := by rw [hQ4, List.length_append]
            have lQ5 : Q5.length = (Q4 : List UInt8).length + ([59, 10] : List UInt8).length := by rw [hQ5, List.length_append]
            simp only [List.length_cons, List.length_nil] at lQ1 lQ3 lQ5
            have q0 : ∀ W, (Op.stringOp .add ⟨Z0.toArray⟩ ⟨#[32, 32]⟩).run Tryd.prog W = .ok (.string ⟨Q1.toArray⟩) W := fun W => by rw [hQ1]; exact add_text W Z0 [32, 32] (by simp only [List.length_cons, List.length_nil]; omega)
            have q1 : ∀ W, (Op.stringOp .add ⟨Q1.toArray⟩ ⟨P2.toArray⟩).run Tryd.prog W = .ok (.string ⟨Q2.toArray⟩) W := fun W => by rw [hQ2]; exact add_text W Q1 P2 (by omega)
            have q2 : ∀ W, (Op.stringOp .add ⟨Q2.toArray⟩ ⟨#[32, 61, 32]⟩).run Tryd.prog W = .ok (.string ⟨Q3.toArray⟩) W := fun W => by rw [hQ3]; exact add_text W Q2 [32, 61, 32] (by simp only [List.length_cons, List.length_nil]; omega)
            have q3 : ∀ W, (Op.stringOp .add ⟨Q3.toArray⟩ ⟨X.toArray⟩).run Tryd.prog W = .ok (.string ⟨Q4.toArray⟩) W := fun W => by rw [hQ4]; exact add_text W Q3 X (by omega)
            have q4 : ∀ W, (Op.stringOp .add ⟨Q4.toArray⟩ ⟨#[59, 10]⟩).run Tryd.prog W = .ok (.string ⟨Q5.toArray⟩) W := fun W => by rw [hQ5]; exact add_text W Q4 [59, 10] (by simp only [List.length_cons, List.length_nil]; omega)
            clear hb5 hP1 hP2 lM lP1 lP2 hQ1 hQ2 hQ3 hQ4 hQ5 lQ1 lQ2 lQ3 lQ4 lQ5
            go_wp2_with fail
            refine Calls.mono CT ?_
            rintro r w7 ⟨rfl, hb7⟩
            have HB7 : Hid (Below W0.heap.size W0 w7) := HBw.out.trans (hb7.mono HSw.out)
            clear hb7
            go_wp2_with fail
            go_roundw
            case rel => exact ⟨k + 1, by omega, by go_num, by rw [← HZZ.out, HQ5.out], HB7⟩
            case measure => simp [intOf]; omega
    · obtain rfl : k = n := by omega
      have HE : Hid ((ts.take k).flatten = ts.flatten) := by rw [Hid, ← HLen.out, List.take_length]
      rw [HE.out]
      obtain ⟨R0, hR0⟩ : ∃ R, R = L1 ++ ts.flatten := ⟨_, rfl⟩
      have HR0 : Hid _ := hR0
      have hRl : R0.length + 4 ≤ 1000000000 := by have := HLe.out; rw [← hR0, List.length_append] at this; exact this
      rw [← hR0]
      have tl : ∀ W, (Op.stringOp .add ⟨R0.toArray⟩ ⟨#[116, 101, 108, 10]⟩).run Tryd.prog W = .ok (.string ⟨(R0 ++ [116, 101, 108, 10]).toArray⟩) W := fun W => add_text W R0 [116, 101, 108, 10] (by simp only [List.length_cons, List.length_nil]; omega)
      clear hR0 hRl
      go_wp2_with fail
      go_ret
      exact ⟨by rw [← HR0.out]; rfl, HUp.out wr HB⟩
set_option maxRecDepth 100000 in
set_option maxHeartbeats 25600000 in
theorem node_ref_10 {nm : ByteArray} {pl : Int} {ia oa va qa : Option Addr} {ic oc vc qc : Nat} {ins outs : List Pm} {eqs : List Eqn} (hin : RPms ins ia ic) (hout : RPms outs oa oc) (hn : eqs.length ≤ 1048576) (hq : ∀ q ∈ eqs, RText q.e ∧ 1 ≤ q.ns.length ∧ q.ns.length ≤ 32) (hlen : (Nd.text ⟨true, nm, pl, ia, ic, ins, oa, oc, outs, va, vc, [], qa, qc, eqs⟩).length ≤ 1000000000) (w : World) (hl : Nd.lies w ⟨true, nm, pl, ia, ic, ins, oa, oc, outs, va, vc, [], qa, qc, eqs⟩) :
    Calls Tryd.prog 14 #[Nd.val ⟨true, nm, pl, ia, ic, ins, oa, oc, outs, va, vc, [], qa, qc, eqs⟩] w fun r w' => r = .returned (.string ⟨(Nd.text ⟨true, nm, pl, ia, ic, ins, oa, oc, outs, va, vc, [], qa, qc, eqs⟩).toArray⟩) ∧ Below w.heap.size w w' := by
  obtain ⟨hl1, hl2, hl3, hl4, hl5⟩ := hl
  obtain ⟨ts, hts⟩ : ∃ ts, ts = eqs.map Eqn.text := ⟨_, rfl⟩
  have HTS : Hid _ := hts
  obtain ⟨I, hI⟩ : ∃ I, I = pmsText ins := ⟨_, rfl⟩
  obtain ⟨O, hO⟩ : ∃ O, O = pmsText outs := ⟨_, rfl⟩
  obtain ⟨T1, hT1⟩ : ∃ T : List UInt8, T = [102, 108, 111, 119, 32] ++ nm.data.toList := ⟨_, rfl⟩
  obtain ⟨T2, hT2⟩ : ∃ T : List UInt8, T = T1 ++ [40] := ⟨_, rfl⟩
  obtain ⟨T3, hT3⟩ : ∃ T : List UInt8, T = T2 ++ I := ⟨_, rfl⟩
  obtain ⟨T4, hT4⟩ : ∃ T : List UInt8, T = T3 ++ [41, 32, 114, 101, 116, 117, 114, 110, 115, 32, 40] := ⟨_, rfl⟩
  obtain ⟨T5, hT5⟩ : ∃ T : List UInt8, T = T4 ++ O := ⟨_, rfl⟩
  obtain ⟨T6, hT6⟩ : ∃ T : List UInt8, T = T5 ++ [41, 10] := ⟨_, rfl⟩
  obtain ⟨L1, hL1⟩ : ∃ T : List UInt8, T = T6 ++ [108, 101, 116, 10] := ⟨_, rfl⟩
  have HT : Hid (Nd.text ⟨true, nm, pl, ia, ic, ins, oa, oc, outs, va, vc, [], qa, qc, eqs⟩ = (L1 ++ ts.flatten) ++ [116, 101, 108, 10]) := by
    rw [Hid, hts, hL1, hT6, hT5, hT4, hT3, hT2, hT1, hI, hO, Nd.text]
    simp [eqsText]
  rw [HT.out] at hlen ⊢
  have HLe : Hid (((L1 ++ ts.flatten) ++ [116, 101, 108, 10]).length ≤ 1000000000) := hlen
  have hLl : L1.length ≤ 1000000000 := by simp only [List.length_append] at hlen; omega
  have lT1 : T1.length = ([102, 108, 111, 119, 32] : List UInt8).length + (nm.data.toList : List UInt8).length := by rw [hT1, List.length_append]
  have lT2 : T2.length = (T1 : List UInt8).length + ([40] : List UInt8).length := by rw [hT2, List.length_append]
  have lT3 : T3.length = (T2 : List UInt8).length + (I : List UInt8).length := by rw [hT3, List.length_append]
  have lT4 : T4.length = (T3 : List UInt8).length + ([41, 32, 114, 101, 116, 117, 114, 110, 115, 32, 40] : List UInt8).length := by rw [hT4, List.length_append]
  have lT5 : T5.length = (T4 : List UInt8).length + (O : List UInt8).length := by rw [hT5, List.length_append]
  have lT6 : T6.length = (T5 : List UInt8).length + ([41, 10] : List UInt8).length := by rw [hT6, List.length_append]
  have lL1 : L1.length = (T6 : List UInt8).length + ([108, 101, 116, 10] : List UInt8).length := by rw [hL1, List.length_append]
  simp only [List.length_cons, List.length_nil] at lT1 lT2 lT4 lT6 lL1
  have s0 : ∀ W, (Op.stringOp .add ⟨#[102, 108, 111, 119, 32]⟩ nm).run Tryd.prog W = .ok (.string ⟨T1.toArray⟩) W := fun W => by rw [hT1]; exact add_name W [102, 108, 111, 119, 32] nm (by simp only [List.length_cons, List.length_nil]; omega)
  have s1 : ∀ W, (Op.stringOp .add ⟨T1.toArray⟩ ⟨#[40]⟩).run Tryd.prog W = .ok (.string ⟨T2.toArray⟩) W := fun W => by rw [hT2]; exact add_text W T1 [40] (by simp only [List.length_cons, List.length_nil]; omega)
  have s2 : ∀ W, (Op.stringOp .add ⟨T2.toArray⟩ ⟨I.toArray⟩).run Tryd.prog W = .ok (.string ⟨T3.toArray⟩) W := fun W => by rw [hT3]; exact add_text W T2 I (by omega)
  have s3 : ∀ W, (Op.stringOp .add ⟨T3.toArray⟩ ⟨#[41, 32, 114, 101, 116, 117, 114, 110, 115, 32, 40]⟩).run Tryd.prog W = .ok (.string ⟨T4.toArray⟩) W := fun W => by rw [hT4]; exact add_text W T3 [41, 32, 114, 101, 116, 117, 114, 110, 115, 32, 40] (by simp only [List.length_cons, List.length_nil]; omega)
  have s4 : ∀ W, (Op.stringOp .add ⟨T4.toArray⟩ ⟨O.toArray⟩).run Tryd.prog W = .ok (.string ⟨T5.toArray⟩) W := fun W => by rw [hT5]; exact add_text W T4 O (by omega)
  have s5 : ∀ W, (Op.stringOp .add ⟨T5.toArray⟩ ⟨#[41, 10]⟩).run Tryd.prog W = .ok (.string ⟨T6.toArray⟩) W := fun W => by rw [hT6]; exact add_text W T5 [41, 10] (by simp only [List.length_cons, List.length_nil]; omega)
  have s6 : ∀ W, (Op.stringOp .add ⟨T6.toArray⟩ ⟨#[108, 101, 116, 10]⟩).run Tryd.prog W = .ok (.string ⟨L1.toArray⟩) W := fun W => by rw [hL1]; exact add_text W T6 [108, 101, 116, 10] (by simp only [List.length_cons, List.length_nil]; omega)
  obtain ⟨n, hn2⟩ : ∃ n, n = eqs.length := ⟨_, rfl⟩
  obtain ⟨n1, hn3⟩ : ∃ n, n = ins.length := ⟨_, rfl⟩
  obtain ⟨n2, hn4⟩ : ∃ n, n = outs.length := ⟨_, rfl⟩
  obtain ⟨W0, hW0⟩ : ∃ W0 : World, W0 = w.alloc (.cells #[.bool true, .string nm, .int .i64 pl, .slice ia n1 ic, .slice oa n2 oc, .slice va 0 vc, .slice qa n qc] 37) := ⟨_, rfl⟩
  have hb0 : Below w.heap.size w W0 := by rw [hW0]; exact (Below.refl _ _).alloc (Nat.le_refl _) _
  have hs0 : W0.heap.size = w.heap.size + 1 := by rw [hW0]; simp
  have hbx : W0.heap[w.heap.size]? = some (.cells #[.bool true, .string nm, .int .i64 pl, .slice ia n1 ic, .slice oa n2 oc, .slice va 0 vc, .slice qa n qc] 37 (0, 0)) := by rw [hW0]; exact heap_at rfl
  have up : ∀ w', Hid (Below W0.heap.size W0 w') → Below w.heap.size w w' := fun w' h => hb0.trans (h.out.mono (by omega))
  have C1 : TextIs W0 29 #[.slice ia n1 ic] I := ⟨fun w' h => by rw [hI, hn3]; exact hin w' (rowIn_below hl1 (up w' h))⟩
  have C2 : TextIs W0 29 #[.slice oa n2 oc] O := ⟨fun w' h => by rw [hO, hn4]; exact hout w' (rowIn_below hl2 (up w' h))⟩
  have B1 : Hid _ := keep_cell (show W0.cell? ⟨w.heap.size, 1, none⟩ = some (.string nm) by rw [cell_of_row hbx]; rfl)
  have B3 : Hid _ := keep_cell (show W0.cell? ⟨w.heap.size, 3, none⟩ = some (.slice ia n1 ic) by rw [cell_of_row hbx]; rfl)
  have B4 : Hid _ := keep_cell (show W0.cell? ⟨w.heap.size, 4, none⟩ = some (.slice oa n2 oc) by rw [cell_of_row hbx]; rfl)
  have B5 : Hid _ := keep_cell (show W0.cell? ⟨w.heap.size, 5, none⟩ = some (.slice va 0 vc) by rw [cell_of_row hbx]; rfl)
  have B6 : Hid _ := keep_cell (show W0.cell? ⟨w.heap.size, 6, none⟩ = some (.slice qa n qc) by rw [cell_of_row hbx]; rfl)
  have HN : Hid (n = eqs.length) := hn2
  have HLen : Hid (ts.length = n) := by rw [Hid, hts, List.length_map, hn2]
  have HQ : Hid _ := hq
  have HL4 : Hid _ := hl4
  have HL5 : Hid _ := hl5
  have HUp : Hid _ := up
  have HE0 : Hid _ := hW0
  have HB0 : Hid _ := hb0
  have HS0 : Hid _ := hs0
  have hnb : n ≤ 1048576 := by rw [hn2]; exact hn
  simp only [Nd.val, Nd.cells, List.toArray, List.length_nil, ← hn2, ← hn3, ← hn4]
  have HBz : Hid (Below W0.heap.size W0 W0) := Below.refl _ _
  have f1 := B1.out W0 HBz
  have f3 := B3.out W0 HBz
  have f4 := B4.out W0 HBz
  have hwl : w.heap.size < W0.heap.size := by omega
  clear hts hI hO  hn2 hn3 hn4 hl1 hl2 hl3 hl4 hl5 hW0 hb0 hs0 hbx up hin hout hq hlen hn hT1 hT2 hT3 hT4 hT5 hT6 hL1 lT1 lT2 lT3 lT4 lT5 lT6 lL1
  clear hLl
  go_enter Tryd.func14, Tryd.ntmps14
  go_wp2_with fail
  rw [← HE0.out]
  have HBd : Hid (Below W0.heap.size W0 W0.drew) := ((Gr.refl W0).drew).below
  have g1 := B1.out W0.drew HBd
  have g3 := B3.out W0.drew HBd
  have g4 := B4.out W0.drew HBd
  go_region_held3 (fun w' => w'.cell? ⟨w.heap.size, 1, none⟩ = some (.string nm) ∧ w'.cell? ⟨w.heap.size, 3, none⟩ = some (.slice ia n1 ic) ∧ w'.cell? ⟨w.heap.size, 4, none⟩ = some (.slice oa n2 oc)) (go_simp) ((refine Calls.mono (TextIs.out (W0 := W0) (by assumption) _ (by assumption)) ?_; rintro r w5 ⟨rfl, hb5⟩; have hB5 := grow_on (W := W0) (by assumption) hb5; have m1 := B1.out w5 hB5; have m3 := B3.out w5 hB5; have m4 := B4.out w5 hB5; have m5 := B5.out w5 hB5; have m6 := B6.out w5 hB5; clear hb5))
  go_wp2_with fail
  go_loopw [3, 4] (fun s i wr => ∃ k : Nat, k ≤ n ∧ i = .int .i64 k ∧ s = .string ⟨(L1 ++ (ts.take k).flatten).toArray⟩ ∧ Hid (Below W0.heap.size W0 wr)) (fun _ i _ => n - (intOf i).toNat)
  case atStart => exact ⟨0, by omega, rfl, by simp, hB5⟩
  case round =>
    obtain ⟨k, hk, rfl, rfl, HB⟩ := hrel
    have b6 := B6.out wr HB
    by_cases hlt : k < n
    · have hkl : k < eqs.length := by rw [← HN.out]; exact hlt
      have hkt : k < ts.length := by rw [HLen.out]; exact hlt
      obtain ⟨bA, oA, rfl, hbA, hrow⟩ := HL4.out (by intro h; rw [h] at hkl; simp at hkl)
      have hcr := old_cells (n := 8) (HUp.out wr HB) hbA (fun j hj => hrow k hkl j hj)
      obtain ⟨hns, hle⟩ := HL5.out eqs[k] (List.getElem_mem hkl)
      obtain ⟨hRT, q1, q2⟩ := HQ.out eqs[k] (List.getElem_mem hkl)
      obtain ⟨bN, oN, hna, hbN, hnm⟩ := names_row hns (by intro h; rw [h] at q1; simp at q1)
      have CT := hRT wr (lies_below (HUp.out wr HB) _ hle)
      have HF : Hid ((ts.take (k + 1)).flatten = (ts.take k).flatten ++ ts[k]) := flat_at2 _ _ hkt
      have hx : ts[k] = eqs[k].text := by simp [HTS.out]
      have hbl : (L1 ++ (ts.take (k + 1)).flatten).length ≤ 1000000000 := by
        have h1 := HLe.out
        have h2 : ts.flatten = (ts.take (k + 1)).flatten ++ (ts.drop (k + 1)).flatten := by rw [← List.flatten_append, List.take_append_drop]
        rw [h2] at h1
        simp only [List.length_append] at h1 ⊢
        omega
      obtain ⟨Z0, hZ0⟩ : ∃ S, S = L1 ++ (ts.take k).flatten := ⟨_, rfl⟩
      obtain ⟨ZZ, hZZ⟩ : ∃ S, S = L1 ++ (ts.take (k + 1)).flatten := ⟨_, rfl⟩
      have HZZ : Hid _ := hZZ
      rw [← hZ0]
      rw [HF.out, hx, ← List.append_assoc, ← hZ0, eqn_text, left_join] at hZZ
      rw [← HZZ.out] at hbl
      have HNames : Hid (∀ i (hi : i < eqs[k].ns.length), wr.cell? ⟨bN, oN + i, none⟩ = some (.string eqs[k].ns[i])) := fun i hi => ((HUp.out wr HB).cell (p := ⟨bN, oN + i, none⟩) hbN).trans (hnm i hi)
      have hLJ : (joinTo eqs[k].ns eqs[k].ns.length).length + 2 ≤ 1000000000 := by
        rw [hZZ] at hbl
        split at hbl <;> simp only [List.length_append, List.length_cons, List.length_nil] at hbl <;> omega
      have HJl : Hid (∀ j, j ≤ eqs[k].ns.length → (joinTo eqs[k].ns j).length ≤ 1000000000) := fun j hj => by
        have := join_le eqs[k].ns j
        unfold joinTo at hLJ ⊢
        rw [List.take_length] at hLJ
        unfold joinTo at this
        omega
      generalize eqs[k] = x at *
      obtain ⟨nax, ncx, nsx, plx, e⟩ := x
      obtain ⟨X, hX⟩ : ∃ X, X = e.text := ⟨_, rfl⟩
      simp only at hns hna q1 q2 hZZ CT HNames hLJ HJl
      simp only [← hX] at CT hZZ
      obtain ⟨ln, hln⟩ : ∃ ln, ln = nsx.length := ⟨_, rfl⟩
      have HLN : Hid _ := hln
      have HZ1 : Hid (ZZ = Z0 ++ ([32, 32] ++ ((if ln = 1 then joinTo nsx ln else [40] ++ joinTo nsx ln ++ [41]) ++ [32, 61, 32]) ++ (X ++ [59, 10]))) := by rw [Hid, hln]; exact hZZ
      have HLJ : Hid ((joinTo nsx ln).length + 2 ≤ 1000000000) := by rw [Hid, hln]; exact hLJ
      have HBL : Hid (ZZ.length ≤ 1000000000) := hbl
      have hl1 : 1 ≤ ln := by rw [hln]; exact q1
      have hl2 : ln ≤ 32 := by rw [hln]; exact q2
      obtain rfl := hna
      obtain ⟨kx, px, nx, ix, dx, ax, cx, qx⟩ := e
      obtain ⟨lx, hlx⟩ : ∃ lx, lx = qx.length := ⟨_, rfl⟩
      simp only [Eqn.cells, Ex.val, Ex.cells, List.toArray, ← hlx, ← hln] at CT hcr
      have d0 : wr.cell? ⟨bA, oA + k * 8, none⟩ = some (.slice (some ⟨bN, oN, none⟩) ln ncx) := hcr 0 (by omega)
      have d2 : wr.cell? ⟨bA, oA + k * 8 + 2, none⟩ = some (.int .u8 kx) := hcr 2 (by omega)
      have d3 : wr.cell? ⟨bA, oA + k * 8 + 2 + 1, none⟩ = some (.int .i64 px) := hcr 3 (by omega)
      have d4 : wr.cell? ⟨bA, oA + k * 8 + 2 + 2, none⟩ = some (.string nx) := hcr 4 (by omega)
      have d5 : wr.cell? ⟨bA, oA + k * 8 + 2 + 3, none⟩ = some (.int .i64 ix) := hcr 5 (by omega)
      have d6 : wr.cell? ⟨bA, oA + k * 8 + 2 + 4, none⟩ = some (.int .i64 dx) := hcr 6 (by omega)
      have d7 : wr.cell? ⟨bA, oA + k * 8 + 2 + 5, none⟩ = some (.slice ax lx cx) := hcr 7 (by omega)
      obtain ⟨x0, rx, hx0⟩ : ∃ x r, nsx = x :: r := by cases nsx with | nil => simp at q1 | cons x r => exact ⟨x, r, rfl⟩
      have n0 : wr.cell? ⟨bN, oN, none⟩ = some (.string x0) := by have := HNames.out 0 (by omega); simpa [hx0] using this
      have HJ1 : Hid (joinTo nsx 1 = x0.data.toList) := by rw [Hid, hx0]; exact join_one1 x0 rx
      clear hZZ hZ0 hbl hLJ hX hlx hcr hrow hns hle hRT q1 q2 hnm hx HF hkl hkt hbA hx0
      go_wp2_with fail
      have HBw : Hid (Below W0.heap.size W0 wr) := HB
      have HSw : Hid (W0.heap.size ≤ wr.heap.size) := HB.out.size
      go_loopw [6, 7] (fun s i w2 => ∃ j : Nat, 1 ≤ j ∧ j ≤ ln ∧ i = .int .i64 j ∧ s = .string ⟨(joinTo nsx j).toArray⟩ ∧ w2 = wr) (fun _ i _ => ln - (intOf i).toNat)
      case atStart => exact ⟨1, Nat.le_refl _, hl1, rfl, by rw [HJ1.out], rfl⟩
      case round =>
        obtain ⟨j, hj1, hj2, rfl, rfl, hw2⟩ := hrel
        subst hw2
        by_cases hjl : j < ln
        · have hjn : j < nsx.length := by rw [← HLN.out]; exact hjl
          have hnj := HNames.out j hjn
          have HJs : Hid (joinTo nsx (j + 1) = joinTo nsx j ++ [44, 32] ++ nsx[j].data.toList) := join_at nsx j hj1 hjn
          have hbj : (joinTo nsx (j + 1)).length ≤ 1000000000 := HJl.out (j + 1) (by rw [← HLN.out]; omega)
          generalize nsx[j] = nj at hnj HJs
          obtain ⟨J0, hJ0⟩ : ∃ J, J = joinTo nsx j := ⟨_, rfl⟩
          rw [HJs.out, ← hJ0] at hbj
          have HJ0 : Hid _ := hJ0
          rw [← hJ0]
          obtain ⟨J1, hJ1⟩ : ∃ T : List UInt8, T = J0 ++ [44, 32] := ⟨_, rfl⟩
          obtain ⟨J2, hJ2⟩ : ∃ T : List UInt8, T = J1 ++ nj.data.toList := ⟨_, rfl⟩
          have HJ2 : Hid (joinTo nsx (j + 1) = J2) := by rw [Hid, HJs.out, hJ2, hJ1, HJ0.out]
          rw [← hJ1, ← hJ2] at hbj
          have lJ1 : J1.length = (J0 : List UInt8).length + ([44, 32] : List UInt8).length := by rw [hJ1, List.length_append]
          have lJ2 : J2.length = (J1 : List UInt8).length + (nj.data.toList : List UInt8).length := by rw [hJ2, List.length_append]
          simp only [List.length_cons, List.length_nil] at lJ1
          have t0 : ∀ W, (Op.stringOp .add ⟨J0.toArray⟩ ⟨#[44, 32]⟩).run Tryd.prog W = .ok (.string ⟨J1.toArray⟩) W := fun W => by rw [hJ1]; exact add_text W J0 [44, 32] (by simp only [List.length_cons, List.length_nil]; omega)
          have t1 : ∀ W, (Op.stringOp .add ⟨J1.toArray⟩ nj).run Tryd.prog W = .ok (.string ⟨J2.toArray⟩) W := fun W => by rw [hJ2]; exact add_name W J1 nj (by omega)
          clear hJ0 hbj hjn hJ1 hJ2 lJ1 lJ2
          go_wp2_with fail
          go_roundw
          case rel => exact ⟨j + 1, by omega, by omega, by go_num, by rw [HJ2.out], trivial⟩
          case measure => simp [intOf]; omega
        · obtain rfl : j = ln := by omega
          clear hjl
          obtain ⟨M, hM⟩ : ∃ M, M = joinTo nsx j := ⟨_, rfl⟩
          rw [← hM]
          have HMl : Hid (M.length + 2 ≤ 1000000000) := by rw [Hid, hM]; exact HLJ.out
          have HM : Hid _ := hM
          clear hM
          by_cases h1 : j = 1
          · obtain ⟨Q1, hQ1⟩ : ∃ T : List UInt8, T = Z0 ++ [32, 32] := ⟨_, rfl⟩
            obtain ⟨Q2, hQ2⟩ : ∃ T : List UInt8, T = Q1 ++ M := ⟨_, rfl⟩
            obtain ⟨Q3, hQ3⟩ : ∃ T : List UInt8, T = Q2 ++ [32, 61, 32] := ⟨_, rfl⟩
            obtain ⟨Q4, hQ4⟩ : ∃ T : List UInt8, T = Q3 ++ X := ⟨_, rfl⟩
            obtain ⟨Q5, hQ5⟩ : ∃ T : List UInt8, T = Q4 ++ [59, 10] := ⟨_, rfl⟩
            have HQ5 : Hid (ZZ = Q5) := by
              rw [Hid, HZ1.out, if_pos h1, hQ5, hQ4, hQ3, hQ2, hQ1, HM.out]
              simp
            have hb5 : Q5.length ≤ 1000000000 := by rw [← HQ5.out]; exact HBL.out
            have lQ1 : Q1.length = (Z0 : List UInt8).length + ([32, 32] : List UInt8).length := by rw [hQ1, List.length_append]
            have lQ2 : Q2.length = (Q1 : List UInt8).length + (M : List UInt8).length := by rw [hQ2, List.length_append]
            have lQ3 : Q3.length = (Q2 : List UInt8).length + ([32, 61, 32] : List UInt8).length := by rw [hQ3, List.length_append]
            have lQ4 : Q4.length = (Q3 : List UInt8).length + (X : List UInt8).length := by rw [hQ4, List.length_append]
            have lQ5 : Q5.length = (Q4 : List UInt8).length + ([59, 10] : List UInt8).length := by rw [hQ5, List.length_append]
            simp only [List.length_cons, List.length_nil] at lQ1 lQ3 lQ5
            have q0 : ∀ W, (Op.stringOp .add ⟨Z0.toArray⟩ ⟨#[32, 32]⟩).run Tryd.prog W = .ok (.string ⟨Q1.toArray⟩) W := fun W => by rw [hQ1]; exact add_text W Z0 [32, 32] (by simp only [List.length_cons, List.length_nil]; omega)
            have q1 : ∀ W, (Op.stringOp .add ⟨Q1.toArray⟩ ⟨M.toArray⟩).run Tryd.prog W = .ok (.string ⟨Q2.toArray⟩) W := fun W => by rw [hQ2]; exact add_text W Q1 M (by omega)
            have q2 : ∀ W, (Op.stringOp .add ⟨Q2.toArray⟩ ⟨#[32, 61, 32]⟩).run Tryd.prog W = .ok (.string ⟨Q3.toArray⟩) W := fun W => by rw [hQ3]; exact add_text W Q2 [32, 61, 32] (by simp only [List.length_cons, List.length_nil]; omega)
            have q3 : ∀ W, (Op.stringOp .add ⟨Q3.toArray⟩ ⟨X.toArray⟩).run Tryd.prog W = .ok (.string ⟨Q4.toArray⟩) W := fun W => by rw [hQ4]; exact add_text W Q3 X (by omega)
            have q4 : ∀ W, (Op.stringOp .add ⟨Q4.toArray⟩ ⟨#[59, 10]⟩).run Tryd.prog W = .ok (.string ⟨Q5.toArray⟩) W := fun W => by rw [hQ5]; exact add_text W Q4 [59, 10] (by simp only [List.length_cons, List.length_nil]; omega)
            clear hb5  hQ1 hQ2 hQ3 hQ4 hQ5 lQ1 lQ2 lQ3 lQ4 lQ5
            go_wp2_with fail
            refine Calls.mono CT ?_
            rintro r w7 ⟨rfl, hb7⟩
            have HB7 : Hid (Below W0.heap.size W0 w7) := HBw.out.trans (hb7.mono HSw.out)
            clear hb7
            go_wp2_with fail
            go_roundw
            case rel => exact ⟨k + 1, by omega, by go_num, by rw [← HZZ.out, HQ5.out], HB7⟩
            case measure => simp [intOf]; omega
          · have h1b : 1 < j := by omega
            obtain ⟨P1, hP1⟩ : ∃ T : List UInt8, T = [40] ++ M := ⟨_, rfl⟩
            obtain ⟨P2, hP2⟩ : ∃ T : List UInt8, T = P1 ++ [41] := ⟨_, rfl⟩
            have lM := HMl.out
            have lP1 : P1.length = 1 + M.length := by rw [hP1, List.length_append]; rfl
            have lP2 : P2.length = (P1 : List UInt8).length + ([41] : List UInt8).length := by rw [hP2, List.length_append]
            simp only [List.length_cons, List.length_nil] at lP2
            have p0 : ∀ W, (Op.stringOp .add ⟨#[40]⟩ ⟨M.toArray⟩).run Tryd.prog W = .ok (.string ⟨P1.toArray⟩) W := fun W => by rw [hP1]; exact add_text W [40] M (by simp only [List.length_cons, List.length_nil]; omega)
            have p1 : ∀ W, (Op.stringOp .add ⟨P1.toArray⟩ ⟨#[41]⟩).run Tryd.prog W = .ok (.string ⟨P2.toArray⟩) W := fun W => by rw [hP2]; exact add_text W P1 [41] (by simp only [List.length_cons, List.length_nil]; omega)
            obtain ⟨Q1, hQ1⟩ : ∃ T : List UInt8, T = Z0 ++ [32, 32] := ⟨_, rfl⟩
            obtain ⟨Q2, hQ2⟩ : ∃ T : List UInt8, T = Q1 ++ P2 := ⟨_, rfl⟩
            obtain ⟨Q3, hQ3⟩ : ∃ T : List UInt8, T = Q2 ++ [32, 61, 32] := ⟨_, rfl⟩
            obtain ⟨Q4, hQ4⟩ : ∃ T : List UInt8, T = Q3 ++ X := ⟨_, rfl⟩
            obtain ⟨Q5, hQ5⟩ : ∃ T : List UInt8, T = Q4 ++ [59, 10] := ⟨_, rfl⟩
            have HQ5 : Hid (ZZ = Q5) := by
              rw [Hid, HZ1.out, if_neg h1, hQ5, hQ4, hQ3, hQ2, hQ1, hP2, hP1, HM.out]
              simp
            have hb5 : Q5.length ≤ 1000000000 := by rw [← HQ5.out]; exact HBL.out
            have lQ1 : Q1.length = (Z0 : List UInt8).length + ([32, 32] : List UInt8).length := by rw [hQ1, List.length_append]
            have lQ2 : Q2.length = (Q1 : List UInt8).length + (P2 : List UInt8).length := by rw [hQ2, List.length_append]
            have lQ3 : Q3.length = (Q2 : List UInt8).length + ([32, 61, 32] : List UInt8).length := by rw [hQ3, List.length_append]
            have lQ4 : Q4.length = (Q3 : List UInt8).length + (X : List UInt8).length := by rw [hQ4, List.length_append]
            have lQ5 : Q5.length = (Q4 : List UInt8).length + ([59, 10] : List UInt8).length := by rw [hQ5, List.length_append]
            simp only [List.length_cons, List.length_nil] at lQ1 lQ3 lQ5
            have q0 : ∀ W, (Op.stringOp .add ⟨Z0.toArray⟩ ⟨#[32, 32]⟩).run Tryd.prog W = .ok (.string ⟨Q1.toArray⟩) W := fun W => by rw [hQ1]; exact add_text W Z0 [32, 32] (by simp only [List.length_cons, List.length_nil]; omega)
            have q1 : ∀ W, (Op.stringOp .add ⟨Q1.toArray⟩ ⟨P2.toArray⟩).run Tryd.prog W = .ok (.string ⟨Q2.toArray⟩) W := fun W => by rw [hQ2]; exact add_text W Q1 P2 (by omega)
            have q2 : ∀ W, (Op.stringOp .add ⟨Q2.toArray⟩ ⟨#[32, 61, 32]⟩).run Tryd.prog W = .ok (.string ⟨Q3.toArray⟩) W := fun W => by rw [hQ3]; exact add_text W Q2 [32, 61, 32] (by simp only [List.length_cons, List.length_nil]; omega)
            have q3 : ∀ W, (Op.stringOp .add ⟨Q3.toArray⟩ ⟨X.toArray⟩).run Tryd.prog W = .ok (.string ⟨Q4.toArray⟩) W := fun W => by rw [hQ4]; exact add_text W Q3 X (by omega)
            have q4 : ∀ W, (Op.stringOp .add ⟨Q4.toArray⟩ ⟨#[59, 10]⟩).run Tryd.prog W = .ok (.string ⟨Q5.toArray⟩) W := fun W => by rw [hQ5]; exact add_text W Q4 [59, 10] (by simp only [List.length_cons, List.length_nil]; omega)
            clear hb5 hP1 hP2 lM lP1 lP2 hQ1 hQ2 hQ3 hQ4 hQ5 lQ1 lQ2 lQ3 lQ4 lQ5
            go_wp2_with fail
            refine Calls.mono CT ?_
            rintro r w7 ⟨rfl, hb7⟩
            have HB7 : Hid (Below W0.heap.size W0 w7) := HBw.out.trans (hb7.mono HSw.out)
            clear hb7
            go_wp2_with fail
            go_roundw
            case rel => exact ⟨k + 1, by omega, by go_num, by rw [← HZZ.out, HQ5.out], HB7⟩
            case measure => simp [intOf]; omega
    · obtain rfl : k = n := by omega
      have HE : Hid ((ts.take k).flatten = ts.flatten) := by rw [Hid, ← HLen.out, List.take_length]
      rw [HE.out]
      obtain ⟨R0, hR0⟩ : ∃ R, R = L1 ++ ts.flatten := ⟨_, rfl⟩
      have HR0 : Hid _ := hR0
      have hRl : R0.length + 4 ≤ 1000000000 := by have := HLe.out; rw [← hR0, List.length_append] at this; exact this
      rw [← hR0]
      have tl : ∀ W, (Op.stringOp .add ⟨R0.toArray⟩ ⟨#[116, 101, 108, 10]⟩).run Tryd.prog W = .ok (.string ⟨(R0 ++ [116, 101, 108, 10]).toArray⟩) W := fun W => add_text W R0 [116, 101, 108, 10] (by simp only [List.length_cons, List.length_nil]; omega)
      clear hR0 hRl
      go_wp2_with fail
      go_ret
      exact ⟨by rw [← HR0.out]; rfl, HUp.out wr HB⟩
set_option maxRecDepth 100000 in
set_option maxHeartbeats 25600000 in
theorem node_ref_11 {nm : ByteArray} {pl : Int} {ia oa va qa : Option Addr} {ic oc vc qc : Nat} {ins outs vars : List Pm} {eqs : List Eqn} (hin : RPms ins ia ic) (hout : RPms outs oa oc) (hvar : RPms vars va vc) (hv0 : vars ≠ []) (hvn : vars.length ≤ 1048576) (hn : eqs.length ≤ 1048576) (hq : ∀ q ∈ eqs, RText q.e ∧ 1 ≤ q.ns.length ∧ q.ns.length ≤ 32) (hlen : (Nd.text ⟨true, nm, pl, ia, ic, ins, oa, oc, outs, va, vc, vars, qa, qc, eqs⟩).length ≤ 1000000000) (w : World) (hl : Nd.lies w ⟨true, nm, pl, ia, ic, ins, oa, oc, outs, va, vc, vars, qa, qc, eqs⟩) :
    Calls Tryd.prog 14 #[Nd.val ⟨true, nm, pl, ia, ic, ins, oa, oc, outs, va, vc, vars, qa, qc, eqs⟩] w fun r w' => r = .returned (.string ⟨(Nd.text ⟨true, nm, pl, ia, ic, ins, oa, oc, outs, va, vc, vars, qa, qc, eqs⟩).toArray⟩) ∧ Below w.heap.size w w' := by
  obtain ⟨hl1, hl2, hl3, hl4, hl5⟩ := hl
  obtain ⟨ts, hts⟩ : ∃ ts, ts = eqs.map Eqn.text := ⟨_, rfl⟩
  have HTS : Hid _ := hts
  obtain ⟨I, hI⟩ : ∃ I, I = pmsText ins := ⟨_, rfl⟩
  obtain ⟨O, hO⟩ : ∃ O, O = pmsText outs := ⟨_, rfl⟩
  obtain ⟨V, hV⟩ : ∃ V, V = pmsText vars := ⟨_, rfl⟩
  obtain ⟨T1, hT1⟩ : ∃ T : List UInt8, T = [102, 108, 111, 119, 32] ++ nm.data.toList := ⟨_, rfl⟩
  obtain ⟨T2, hT2⟩ : ∃ T : List UInt8, T = T1 ++ [40] := ⟨_, rfl⟩
  obtain ⟨T3, hT3⟩ : ∃ T : List UInt8, T = T2 ++ I := ⟨_, rfl⟩
  obtain ⟨T4, hT4⟩ : ∃ T : List UInt8, T = T3 ++ [41, 32, 114, 101, 116, 117, 114, 110, 115, 32, 40] := ⟨_, rfl⟩
  obtain ⟨T5, hT5⟩ : ∃ T : List UInt8, T = T4 ++ O := ⟨_, rfl⟩
  obtain ⟨T6, hT6⟩ : ∃ T : List UInt8, T = T5 ++ [41, 10] := ⟨_, rfl⟩
  obtain ⟨V1, hV1⟩ : ∃ T : List UInt8, T = T6 ++ [118, 97, 114, 32] := ⟨_, rfl⟩
  obtain ⟨V2, hV2⟩ : ∃ T : List UInt8, T = V1 ++ V := ⟨_, rfl⟩
  obtain ⟨V3, hV3⟩ : ∃ T : List UInt8, T = V2 ++ [59, 10] := ⟨_, rfl⟩
  obtain ⟨L1, hL1⟩ : ∃ T : List UInt8, T = V3 ++ [108, 101, 116, 10] := ⟨_, rfl⟩
  have HT : Hid (Nd.text ⟨true, nm, pl, ia, ic, ins, oa, oc, outs, va, vc, vars, qa, qc, eqs⟩ = (L1 ++ ts.flatten) ++ [116, 101, 108, 10]) := by
    rw [Hid, hts, hL1, hV3, hV2, hV1, hT6, hT5, hT4, hT3, hT2, hT1, hV, hI, hO, Nd.text, if_neg hv0]
    simp [eqsText]
  rw [HT.out] at hlen ⊢
  have HLe : Hid (((L1 ++ ts.flatten) ++ [116, 101, 108, 10]).length ≤ 1000000000) := hlen
  have hLl : L1.length ≤ 1000000000 := by simp only [List.length_append] at hlen; omega
  have lT1 : T1.length = ([102, 108, 111, 119, 32] : List UInt8).length + (nm.data.toList : List UInt8).length := by rw [hT1, List.length_append]
  have lT2 : T2.length = (T1 : List UInt8).length + ([40] : List UInt8).length := by rw [hT2, List.length_append]
  have lT3 : T3.length = (T2 : List UInt8).length + (I : List UInt8).length := by rw [hT3, List.length_append]
  have lT4 : T4.length = (T3 : List UInt8).length + ([41, 32, 114, 101, 116, 117, 114, 110, 115, 32, 40] : List UInt8).length := by rw [hT4, List.length_append]
  have lT5 : T5.length = (T4 : List UInt8).length + (O : List UInt8).length := by rw [hT5, List.length_append]
  have lT6 : T6.length = (T5 : List UInt8).length + ([41, 10] : List UInt8).length := by rw [hT6, List.length_append]
  have lV1 : V1.length = (T6 : List UInt8).length + ([118, 97, 114, 32] : List UInt8).length := by rw [hV1, List.length_append]
  have lV2 : V2.length = (V1 : List UInt8).length + (V : List UInt8).length := by rw [hV2, List.length_append]
  have lV3 : V3.length = (V2 : List UInt8).length + ([59, 10] : List UInt8).length := by rw [hV3, List.length_append]
  have lL1 : L1.length = (V3 : List UInt8).length + ([108, 101, 116, 10] : List UInt8).length := by rw [hL1, List.length_append]
  simp only [List.length_cons, List.length_nil] at lT1 lT2 lT4 lT6 lV1 lV3 lL1
  have s0 : ∀ W, (Op.stringOp .add ⟨#[102, 108, 111, 119, 32]⟩ nm).run Tryd.prog W = .ok (.string ⟨T1.toArray⟩) W := fun W => by rw [hT1]; exact add_name W [102, 108, 111, 119, 32] nm (by simp only [List.length_cons, List.length_nil]; omega)
  have s1 : ∀ W, (Op.stringOp .add ⟨T1.toArray⟩ ⟨#[40]⟩).run Tryd.prog W = .ok (.string ⟨T2.toArray⟩) W := fun W => by rw [hT2]; exact add_text W T1 [40] (by simp only [List.length_cons, List.length_nil]; omega)
  have s2 : ∀ W, (Op.stringOp .add ⟨T2.toArray⟩ ⟨I.toArray⟩).run Tryd.prog W = .ok (.string ⟨T3.toArray⟩) W := fun W => by rw [hT3]; exact add_text W T2 I (by omega)
  have s3 : ∀ W, (Op.stringOp .add ⟨T3.toArray⟩ ⟨#[41, 32, 114, 101, 116, 117, 114, 110, 115, 32, 40]⟩).run Tryd.prog W = .ok (.string ⟨T4.toArray⟩) W := fun W => by rw [hT4]; exact add_text W T3 [41, 32, 114, 101, 116, 117, 114, 110, 115, 32, 40] (by simp only [List.length_cons, List.length_nil]; omega)
  have s4 : ∀ W, (Op.stringOp .add ⟨T4.toArray⟩ ⟨O.toArray⟩).run Tryd.prog W = .ok (.string ⟨T5.toArray⟩) W := fun W => by rw [hT5]; exact add_text W T4 O (by omega)
  have s5 : ∀ W, (Op.stringOp .add ⟨T5.toArray⟩ ⟨#[41, 10]⟩).run Tryd.prog W = .ok (.string ⟨T6.toArray⟩) W := fun W => by rw [hT6]; exact add_text W T5 [41, 10] (by simp only [List.length_cons, List.length_nil]; omega)
  have s6 : ∀ W, (Op.stringOp .add ⟨T6.toArray⟩ ⟨#[118, 97, 114, 32]⟩).run Tryd.prog W = .ok (.string ⟨V1.toArray⟩) W := fun W => by rw [hV1]; exact add_text W T6 [118, 97, 114, 32] (by simp only [List.length_cons, List.length_nil]; omega)
  have s7 : ∀ W, (Op.stringOp .add ⟨V1.toArray⟩ ⟨V.toArray⟩).run Tryd.prog W = .ok (.string ⟨V2.toArray⟩) W := fun W => by rw [hV2]; exact add_text W V1 V (by omega)
  have s8 : ∀ W, (Op.stringOp .add ⟨V2.toArray⟩ ⟨#[59, 10]⟩).run Tryd.prog W = .ok (.string ⟨V3.toArray⟩) W := fun W => by rw [hV3]; exact add_text W V2 [59, 10] (by simp only [List.length_cons, List.length_nil]; omega)
  have s9 : ∀ W, (Op.stringOp .add ⟨V3.toArray⟩ ⟨#[108, 101, 116, 10]⟩).run Tryd.prog W = .ok (.string ⟨L1.toArray⟩) W := fun W => by rw [hL1]; exact add_text W V3 [108, 101, 116, 10] (by simp only [List.length_cons, List.length_nil]; omega)
  obtain ⟨n, hn2⟩ : ∃ n, n = eqs.length := ⟨_, rfl⟩
  obtain ⟨n1, hn3⟩ : ∃ n, n = ins.length := ⟨_, rfl⟩
  obtain ⟨n2, hn4⟩ : ∃ n, n = outs.length := ⟨_, rfl⟩
  obtain ⟨n3, hn5⟩ : ∃ n, n = vars.length := ⟨_, rfl⟩
  have hpos : 0 < n3 := by rw [hn5]; exact List.length_pos_iff.2 hv0
  have hn3b : n3 ≤ 1048576 := by rw [hn5]; exact hvn
  obtain ⟨W0, hW0⟩ : ∃ W0 : World, W0 = w.alloc (.cells #[.bool true, .string nm, .int .i64 pl, .slice ia n1 ic, .slice oa n2 oc, .slice va n3 vc, .slice qa n qc] 37) := ⟨_, rfl⟩
  have hb0 : Below w.heap.size w W0 := by rw [hW0]; exact (Below.refl _ _).alloc (Nat.le_refl _) _
  have hs0 : W0.heap.size = w.heap.size + 1 := by rw [hW0]; simp
  have hbx : W0.heap[w.heap.size]? = some (.cells #[.bool true, .string nm, .int .i64 pl, .slice ia n1 ic, .slice oa n2 oc, .slice va n3 vc, .slice qa n qc] 37 (0, 0)) := by rw [hW0]; exact heap_at rfl
  have up : ∀ w', Hid (Below W0.heap.size W0 w') → Below w.heap.size w w' := fun w' h => hb0.trans (h.out.mono (by omega))
  have C1 : TextIs W0 29 #[.slice ia n1 ic] I := ⟨fun w' h => by rw [hI, hn3]; exact hin w' (rowIn_below hl1 (up w' h))⟩
  have C2 : TextIs W0 29 #[.slice oa n2 oc] O := ⟨fun w' h => by rw [hO, hn4]; exact hout w' (rowIn_below hl2 (up w' h))⟩
  have C3 : TextIs W0 29 #[.slice va n3 vc] V := ⟨fun w' h => by rw [hV, hn5]; exact hvar w' (rowIn_below hl3 (up w' h))⟩
  have B1 : Hid _ := keep_cell (show W0.cell? ⟨w.heap.size, 1, none⟩ = some (.string nm) by rw [cell_of_row hbx]; rfl)
  have B3 : Hid _ := keep_cell (show W0.cell? ⟨w.heap.size, 3, none⟩ = some (.slice ia n1 ic) by rw [cell_of_row hbx]; rfl)
  have B4 : Hid _ := keep_cell (show W0.cell? ⟨w.heap.size, 4, none⟩ = some (.slice oa n2 oc) by rw [cell_of_row hbx]; rfl)
  have B5 : Hid _ := keep_cell (show W0.cell? ⟨w.heap.size, 5, none⟩ = some (.slice va n3 vc) by rw [cell_of_row hbx]; rfl)
  have B6 : Hid _ := keep_cell (show W0.cell? ⟨w.heap.size, 6, none⟩ = some (.slice qa n qc) by rw [cell_of_row hbx]; rfl)
  have HN : Hid (n = eqs.length) := hn2
  have HLen : Hid (ts.length = n) := by rw [Hid, hts, List.length_map, hn2]
  have HQ : Hid _ := hq
  have HL4 : Hid _ := hl4
  have HL5 : Hid _ := hl5
  have HUp : Hid _ := up
  have HE0 : Hid _ := hW0
  have HB0 : Hid _ := hb0
  have HS0 : Hid _ := hs0
  have hnb : n ≤ 1048576 := by rw [hn2]; exact hn
  simp only [Nd.val, Nd.cells, List.toArray, ← hn2, ← hn3, ← hn4, ← hn5]
  have HBz : Hid (Below W0.heap.size W0 W0) := Below.refl _ _
  have f1 := B1.out W0 HBz
  have f3 := B3.out W0 HBz
  have f4 := B4.out W0 HBz
  have hwl : w.heap.size < W0.heap.size := by omega
  clear hts hI hO hV hn5 hvar hv0 hvn hn2 hn3 hn4 hl1 hl2 hl3 hl4 hl5 hW0 hb0 hs0 hbx up hin hout hq hlen hn hT1 hT2 hT3 hT4 hT5 hT6 hV1 hV2 hV3 hL1 lT1 lT2 lT3 lT4 lT5 lT6 lV1 lV2 lV3 lL1
  clear hLl
  go_enter Tryd.func14, Tryd.ntmps14
  go_wp2_with fail
  rw [← HE0.out]
  have HBd : Hid (Below W0.heap.size W0 W0.drew) := ((Gr.refl W0).drew).below
  have g1 := B1.out W0.drew HBd
  have g3 := B3.out W0.drew HBd
  have g4 := B4.out W0.drew HBd
  go_region_held3 (fun w' => w'.cell? ⟨w.heap.size, 1, none⟩ = some (.string nm) ∧ w'.cell? ⟨w.heap.size, 3, none⟩ = some (.slice ia n1 ic) ∧ w'.cell? ⟨w.heap.size, 4, none⟩ = some (.slice oa n2 oc)) (go_simp) ((refine Calls.mono (TextIs.out (W0 := W0) (by assumption) _ (by assumption)) ?_; rintro r w5 ⟨rfl, hb5⟩; have hB5 := grow_on (W := W0) (by assumption) hb5; have m1 := B1.out w5 hB5; have m3 := B3.out w5 hB5; have m4 := B4.out w5 hB5; have m5 := B5.out w5 hB5; have m6 := B6.out w5 hB5; clear hb5))
  go_wp2_with fail
  refine Calls.mono (C3.out _ hB5) ?_
  rintro r w6 ⟨rfl, hb6⟩
  have hB6 := grow_on (W := W0) hB5 hb6
  have p6 := B6.out w6 hB6
  clear hb6
  go_wp2_with fail
  go_loopw [3, 4] (fun s i wr => ∃ k : Nat, k ≤ n ∧ i = .int .i64 k ∧ s = .string ⟨(L1 ++ (ts.take k).flatten).toArray⟩ ∧ Hid (Below W0.heap.size W0 wr)) (fun _ i _ => n - (intOf i).toNat)
  case atStart => exact ⟨0, by omega, rfl, by simp, hB6⟩
  case round =>
    obtain ⟨k, hk, rfl, rfl, HB⟩ := hrel
    have b6 := B6.out wr HB
    by_cases hlt : k < n
    · have hkl : k < eqs.length := by rw [← HN.out]; exact hlt
      have hkt : k < ts.length := by rw [HLen.out]; exact hlt
      obtain ⟨bA, oA, rfl, hbA, hrow⟩ := HL4.out (by intro h; rw [h] at hkl; simp at hkl)
      have hcr := old_cells (n := 8) (HUp.out wr HB) hbA (fun j hj => hrow k hkl j hj)
      obtain ⟨hns, hle⟩ := HL5.out eqs[k] (List.getElem_mem hkl)
      obtain ⟨hRT, q1, q2⟩ := HQ.out eqs[k] (List.getElem_mem hkl)
      obtain ⟨bN, oN, hna, hbN, hnm⟩ := names_row hns (by intro h; rw [h] at q1; simp at q1)
      have CT := hRT wr (lies_below (HUp.out wr HB) _ hle)
      have HF : Hid ((ts.take (k + 1)).flatten = (ts.take k).flatten ++ ts[k]) := flat_at2 _ _ hkt
      have hx : ts[k] = eqs[k].text := by simp [HTS.out]
      have hbl : (L1 ++ (ts.take (k + 1)).flatten).length ≤ 1000000000 := by
        have h1 := HLe.out
        have h2 : ts.flatten = (ts.take (k + 1)).flatten ++ (ts.drop (k + 1)).flatten := by rw [← List.flatten_append, List.take_append_drop]
        rw [h2] at h1
        simp only [List.length_append] at h1 ⊢
        omega
      obtain ⟨Z0, hZ0⟩ : ∃ S, S = L1 ++ (ts.take k).flatten := ⟨_, rfl⟩
      obtain ⟨ZZ, hZZ⟩ : ∃ S, S = L1 ++ (ts.take (k + 1)).flatten := ⟨_, rfl⟩
      have HZZ : Hid _ := hZZ
      rw [← hZ0]
      rw [HF.out, hx, ← List.append_assoc, ← hZ0, eqn_text, left_join] at hZZ
      rw [← HZZ.out] at hbl
      have HNames : Hid (∀ i (hi : i < eqs[k].ns.length), wr.cell? ⟨bN, oN + i, none⟩ = some (.string eqs[k].ns[i])) := fun i hi => ((HUp.out wr HB).cell (p := ⟨bN, oN + i, none⟩) hbN).trans (hnm i hi)
      have hLJ : (joinTo eqs[k].ns eqs[k].ns.length).length + 2 ≤ 1000000000 := by
        rw [hZZ] at hbl
        split at hbl <;> simp only [List.length_append, List.length_cons, List.length_nil] at hbl <;> omega
      have HJl : Hid (∀ j, j ≤ eqs[k].ns.length → (joinTo eqs[k].ns j).length ≤ 1000000000) := fun j hj => by
        have := join_le eqs[k].ns j
        unfold joinTo at hLJ ⊢
        rw [List.take_length] at hLJ
        unfold joinTo at this
        omega
      generalize eqs[k] = x at *
      obtain ⟨nax, ncx, nsx, plx, e⟩ := x
      obtain ⟨X, hX⟩ : ∃ X, X = e.text := ⟨_, rfl⟩
      simp only at hns hna q1 q2 hZZ CT HNames hLJ HJl
      simp only [← hX] at CT hZZ
      obtain ⟨ln, hln⟩ : ∃ ln, ln = nsx.length := ⟨_, rfl⟩
      have HLN : Hid _ := hln
      have HZ1 : Hid (ZZ = Z0 ++ ([32, 32] ++ ((if ln = 1 then joinTo nsx ln else [40] ++ joinTo nsx ln ++ [41]) ++ [32, 61, 32]) ++ (X ++ [59, 10]))) := by rw [Hid, hln]; exact hZZ
      have HLJ : Hid ((joinTo nsx ln).length + 2 ≤ 1000000000) := by rw [Hid, hln]; exact hLJ
      have HBL : Hid (ZZ.length ≤ 1000000000) := hbl
      have hl1 : 1 ≤ ln := by rw [hln]; exact q1
      have hl2 : ln ≤ 32 := by rw [hln]; exact q2
      obtain rfl := hna
      obtain ⟨kx, px, nx, ix, dx, ax, cx, qx⟩ := e
      obtain ⟨lx, hlx⟩ : ∃ lx, lx = qx.length := ⟨_, rfl⟩
      simp only [Eqn.cells, Ex.val, Ex.cells, List.toArray, ← hlx, ← hln] at CT hcr
      have d0 : wr.cell? ⟨bA, oA + k * 8, none⟩ = some (.slice (some ⟨bN, oN, none⟩) ln ncx) := hcr 0 (by omega)
      have d2 : wr.cell? ⟨bA, oA + k * 8 + 2, none⟩ = some (.int .u8 kx) := hcr 2 (by omega)
      have d3 : wr.cell? ⟨bA, oA + k * 8 + 2 + 1, none⟩ = some (.int .i64 px) := hcr 3 (by omega)
      have d4 : wr.cell? ⟨bA, oA + k * 8 + 2 + 2, none⟩ = some (.string nx) := hcr 4 (by omega)
      have d5 : wr.cell? ⟨bA, oA + k * 8 + 2 + 3, none⟩ = some (.int .i64 ix) := hcr 5 (by omega)
      have d6 : wr.cell? ⟨bA, oA + k * 8 + 2 + 4, none⟩ = some (.int .i64 dx) := hcr 6 (by omega)
      have d7 : wr.cell? ⟨bA, oA + k * 8 + 2 + 5, none⟩ = some (.slice ax lx cx) := hcr 7 (by omega)
      obtain ⟨x0, rx, hx0⟩ : ∃ x r, nsx = x :: r := by cases nsx with | nil => simp at q1 | cons x r => exact ⟨x, r, rfl⟩
      have n0 : wr.cell? ⟨bN, oN, none⟩ = some (.string x0) := by have := HNames.out 0 (by omega); simpa [hx0] using this
      have HJ1 : Hid (joinTo nsx 1 = x0.data.toList) := by rw [Hid, hx0]; exact join_one1 x0 rx
      clear hZZ hZ0 hbl hLJ hX hlx hcr hrow hns hle hRT q1 q2 hnm hx HF hkl hkt hbA hx0
      go_wp2_with fail
      have HBw : Hid (Below W0.heap.size W0 wr) := HB
      have HSw : Hid (W0.heap.size ≤ wr.heap.size) := HB.out.size
      go_loopw [6, 7] (fun s i w2 => ∃ j : Nat, 1 ≤ j ∧ j ≤ ln ∧ i = .int .i64 j ∧ s = .string ⟨(joinTo nsx j).toArray⟩ ∧ w2 = wr) (fun _ i _ => ln - (intOf i).toNat)
      case atStart => exact ⟨1, Nat.le_refl _, hl1, rfl, by rw [HJ1.out], rfl⟩
      case round =>
        obtain ⟨j, hj1, hj2, rfl, rfl, hw2⟩ := hrel
        subst hw2
        by_cases hjl : j < ln
        · have hjn : j < nsx.length := by rw [← HLN.out]; exact hjl
          have hnj := HNames.out j hjn
          have HJs : Hid (joinTo nsx (j + 1) = joinTo nsx j ++ [44, 32] ++ nsx[j].data.toList) := join_at nsx j hj1 hjn
          have hbj : (joinTo nsx (j + 1)).length ≤ 1000000000 := HJl.out (j + 1) (by rw [← HLN.out]; omega)
          generalize nsx[j] = nj at hnj HJs
          obtain ⟨J0, hJ0⟩ : ∃ J, J = joinTo nsx j := ⟨_, rfl⟩
          rw [HJs.out, ← hJ0] at hbj
          have HJ0 : Hid _ := hJ0
          rw [← hJ0]
          obtain ⟨J1, hJ1⟩ : ∃ T : List UInt8, T = J0 ++ [44, 32] := ⟨_, rfl⟩
          obtain ⟨J2, hJ2⟩ : ∃ T : List UInt8, T = J1 ++ nj.data.toList := ⟨_, rfl⟩
          have HJ2 : Hid (joinTo nsx (j + 1) = J2) := by rw [Hid, HJs.out, hJ2, hJ1, HJ0.out]
          rw [← hJ1, ← hJ2] at hbj
          have lJ1 : J1.length = (J0 : List UInt8).length + ([44, 32] : List UInt8).length := by rw [hJ1, List.length_append]
          have lJ2 : J2.length = (J1 : List UInt8).length + (nj.data.toList : List UInt8).length := by rw [hJ2, List.length_append]
          simp only [List.length_cons, List.length_nil] at lJ1
          have t0 : ∀ W, (Op.stringOp .add ⟨J0.toArray⟩ ⟨#[44, 32]⟩).run Tryd.prog W = .ok (.string ⟨J1.toArray⟩) W := fun W => by rw [hJ1]; exact add_text W J0 [44, 32] (by simp only [List.length_cons, List.length_nil]; omega)
          have t1 : ∀ W, (Op.stringOp .add ⟨J1.toArray⟩ nj).run Tryd.prog W = .ok (.string ⟨J2.toArray⟩) W := fun W => by rw [hJ2]; exact add_name W J1 nj (by omega)
          clear hJ0 hbj hjn hJ1 hJ2 lJ1 lJ2
          go_wp2_with fail
          go_roundw
          case rel => exact ⟨j + 1, by omega, by omega, by go_num, by rw [HJ2.out], trivial⟩
          case measure => simp [intOf]; omega
        · obtain rfl : j = ln := by omega
          clear hjl
          obtain ⟨M, hM⟩ : ∃ M, M = joinTo nsx j := ⟨_, rfl⟩
          rw [← hM]
          have HMl : Hid (M.length + 2 ≤ 1000000000) := by rw [Hid, hM]; exact HLJ.out
          have HM : Hid _ := hM
          clear hM
          by_cases h1 : j = 1
          · obtain ⟨Q1, hQ1⟩ : ∃ T : List UInt8, T = Z0 ++ [32, 32] := ⟨_, rfl⟩
            obtain ⟨Q2, hQ2⟩ : ∃ T : List UInt8, T = Q1 ++ M := ⟨_, rfl⟩
            obtain ⟨Q3, hQ3⟩ : ∃ T : List UInt8, T = Q2 ++ [32, 61, 32] := ⟨_, rfl⟩
            obtain ⟨Q4, hQ4⟩ : ∃ T : List UInt8, T = Q3 ++ X := ⟨_, rfl⟩
            obtain ⟨Q5, hQ5⟩ : ∃ T : List UInt8, T = Q4 ++ [59, 10] := ⟨_, rfl⟩
            have HQ5 : Hid (ZZ = Q5) := by
              rw [Hid, HZ1.out, if_pos h1, hQ5, hQ4, hQ3, hQ2, hQ1, HM.out]
              simp
            have hb5 : Q5.length ≤ 1000000000 := by rw [← HQ5.out]; exact HBL.out
            have lQ1 : Q1.length = (Z0 : List UInt8).length + ([32, 32] : List UInt8).length := by rw [hQ1, List.length_append]
            have lQ2 : Q2.length = (Q1 : List UInt8).length + (M : List UInt8).length := by rw [hQ2, List.length_append]
            have lQ3 : Q3.length = (Q2 : List UInt8).length + ([32, 61, 32] : List UInt8).length := by rw [hQ3, List.length_append]
            have lQ4 : Q4.length = (Q3 : List UInt8).length + (X : List UInt8).length := by rw [hQ4, List.length_append]
            have lQ5 : Q5.length = (Q4 : List UInt8).length + ([59, 10] : List UInt8).length := by rw [hQ5, List.length_append]
            simp only [List.length_cons, List.length_nil] at lQ1 lQ3 lQ5
            have q0 : ∀ W, (Op.stringOp .add ⟨Z0.toArray⟩ ⟨#[32, 32]⟩).run Tryd.prog W = .ok (.string ⟨Q1.toArray⟩) W := fun W => by rw [hQ1]; exact add_text W Z0 [32, 32] (by simp only [List.length_cons, List.length_nil]; omega)
            have q1 : ∀ W, (Op.stringOp .add ⟨Q1.toArray⟩ ⟨M.toArray⟩).run Tryd.prog W = .ok (.string ⟨Q2.toArray⟩) W := fun W => by rw [hQ2]; exact add_text W Q1 M (by omega)
            have q2 : ∀ W, (Op.stringOp .add ⟨Q2.toArray⟩ ⟨#[32, 61, 32]⟩).run Tryd.prog W = .ok (.string ⟨Q3.toArray⟩) W := fun W => by rw [hQ3]; exact add_text W Q2 [32, 61, 32] (by simp only [List.length_cons, List.length_nil]; omega)
            have q3 : ∀ W, (Op.stringOp .add ⟨Q3.toArray⟩ ⟨X.toArray⟩).run Tryd.prog W = .ok (.string ⟨Q4.toArray⟩) W := fun W => by rw [hQ4]; exact add_text W Q3 X (by omega)
            have q4 : ∀ W, (Op.stringOp .add ⟨Q4.toArray⟩ ⟨#[59, 10]⟩).run Tryd.prog W = .ok (.string ⟨Q5.toArray⟩) W := fun W => by rw [hQ5]; exact add_text W Q4 [59, 10] (by simp only [List.length_cons, List.length_nil]; omega)
            clear hb5  hQ1 hQ2 hQ3 hQ4 hQ5 lQ1 lQ2 lQ3 lQ4 lQ5
            go_wp2_with fail
            refine Calls.mono CT ?_
            rintro r w7 ⟨rfl, hb7⟩
            have HB7 : Hid (Below W0.heap.size W0 w7) := HBw.out.trans (hb7.mono HSw.out)
            clear hb7
            go_wp2_with fail
            go_roundw
            case rel => exact ⟨k + 1, by omega, by go_num, by rw [← HZZ.out, HQ5.out], HB7⟩
            case measure => simp [intOf]; omega
          · have h1b : 1 < j := by omega
            obtain ⟨P1, hP1⟩ : ∃ T : List UInt8, T = [40] ++ M := ⟨_, rfl⟩
            obtain ⟨P2, hP2⟩ : ∃ T : List UInt8, T = P1 ++ [41] := ⟨_, rfl⟩
            have lM := HMl.out
            have lP1 : P1.length = 1 + M.length := by rw [hP1, List.length_append]; rfl
            have lP2 : P2.length = (P1 : List UInt8).length + ([41] : List UInt8).length := by rw [hP2, List.length_append]
            simp only [List.length_cons, List.length_nil] at lP2
            have p0 : ∀ W, (Op.stringOp .add ⟨#[40]⟩ ⟨M.toArray⟩).run Tryd.prog W = .ok (.string ⟨P1.toArray⟩) W := fun W => by rw [hP1]; exact add_text W [40] M (by simp only [List.length_cons, List.length_nil]; omega)
            have p1 : ∀ W, (Op.stringOp .add ⟨P1.toArray⟩ ⟨#[41]⟩).run Tryd.prog W = .ok (.string ⟨P2.toArray⟩) W := fun W => by rw [hP2]; exact add_text W P1 [41] (by simp only [List.length_cons, List.length_nil]; omega)
            obtain ⟨Q1, hQ1⟩ : ∃ T : List UInt8, T = Z0 ++ [32, 32] := ⟨_, rfl⟩
            obtain ⟨Q2, hQ2⟩ : ∃ T : List UInt8, T = Q1 ++ P2 := ⟨_, rfl⟩
            obtain ⟨Q3, hQ3⟩ : ∃ T : List UInt8, T = Q2 ++ [32, 61, 32] := ⟨_, rfl⟩
            obtain ⟨Q4, hQ4⟩ : ∃ T : List UInt8, T = Q3 ++ X := ⟨_, rfl⟩
            obtain ⟨Q5, hQ5⟩ : ∃ T : List UInt8, T = Q4 ++ [59, 10] := ⟨_, rfl⟩
            have HQ5 : Hid (ZZ = Q5) := by
              rw [Hid, HZ1.out, if_neg h1, hQ5, hQ4, hQ3, hQ2, hQ1, hP2, hP1, HM.out]
              simp
            have hb5 : Q5.length ≤ 1000000000 := by rw [← HQ5.out]; exact HBL.out
            have lQ1 : Q1.length = (Z0 : List UInt8).length + ([32, 32] : List UInt8).length := by rw [hQ1, List.length_append]
            have lQ2 : Q2.length = (Q1 : List UInt8).length + (P2 : List UInt8).length := by rw [hQ2, List.length_append]
            have lQ3 : Q3.length = (Q2 : List UInt8).length + ([32, 61, 32] : List UInt8).length := by rw [hQ3, List.length_append]
            have lQ4 : Q4.length = (Q3 : List UInt8).length + (X : List UInt8).length := by rw [hQ4, List.length_append]
            have lQ5 : Q5.length = (Q4 : List UInt8).length + ([59, 10] : List UInt8).length := by rw [hQ5, List.length_append]
            simp only [List.length_cons, List.length_nil] at lQ1 lQ3 lQ5
            have q0 : ∀ W, (Op.stringOp .add ⟨Z0.toArray⟩ ⟨#[32, 32]⟩).run Tryd.prog W = .ok (.string ⟨Q1.toArray⟩) W := fun W => by rw [hQ1]; exact add_text W Z0 [32, 32] (by simp only [List.length_cons, List.length_nil]; omega)
            have q1 : ∀ W, (Op.stringOp .add ⟨Q1.toArray⟩ ⟨P2.toArray⟩).run Tryd.prog W = .ok (.string ⟨Q2.toArray⟩) W := fun W => by rw [hQ2]; exact add_text W Q1 P2 (by omega)
            have q2 : ∀ W, (Op.stringOp .add ⟨Q2.toArray⟩ ⟨#[32, 61, 32]⟩).run Tryd.prog W = .ok (.string ⟨Q3.toArray⟩) W := fun W => by rw [hQ3]; exact add_text W Q2 [32, 61, 32] (by simp only [List.length_cons, List.length_nil]; omega)
            have q3 : ∀ W, (Op.stringOp .add ⟨Q3.toArray⟩ ⟨X.toArray⟩).run Tryd.prog W = .ok (.string ⟨Q4.toArray⟩) W := fun W => by rw [hQ4]; exact add_text W Q3 X (by omega)
            have q4 : ∀ W, (Op.stringOp .add ⟨Q4.toArray⟩ ⟨#[59, 10]⟩).run Tryd.prog W = .ok (.string ⟨Q5.toArray⟩) W := fun W => by rw [hQ5]; exact add_text W Q4 [59, 10] (by simp only [List.length_cons, List.length_nil]; omega)
            clear hb5 hP1 hP2 lM lP1 lP2 hQ1 hQ2 hQ3 hQ4 hQ5 lQ1 lQ2 lQ3 lQ4 lQ5
            go_wp2_with fail
            refine Calls.mono CT ?_
            rintro r w7 ⟨rfl, hb7⟩
            have HB7 : Hid (Below W0.heap.size W0 w7) := HBw.out.trans (hb7.mono HSw.out)
            clear hb7
            go_wp2_with fail
            go_roundw
            case rel => exact ⟨k + 1, by omega, by go_num, by rw [← HZZ.out, HQ5.out], HB7⟩
            case measure => simp [intOf]; omega
    · obtain rfl : k = n := by omega
      have HE : Hid ((ts.take k).flatten = ts.flatten) := by rw [Hid, ← HLen.out, List.take_length]
      rw [HE.out]
      obtain ⟨R0, hR0⟩ : ∃ R, R = L1 ++ ts.flatten := ⟨_, rfl⟩
      have HR0 : Hid _ := hR0
      have hRl : R0.length + 4 ≤ 1000000000 := by have := HLe.out; rw [← hR0, List.length_append] at this; exact this
      rw [← hR0]
      have tl : ∀ W, (Op.stringOp .add ⟨R0.toArray⟩ ⟨#[116, 101, 108, 10]⟩).run Tryd.prog W = .ok (.string ⟨(R0 ++ [116, 101, 108, 10]).toArray⟩) W := fun W => add_text W R0 [116, 101, 108, 10] (by simp only [List.length_cons, List.length_nil]; omega)
      clear hR0 hRl
      go_wp2_with fail
      go_ret
      exact ⟨by rw [← HR0.out]; rfl, HUp.out wr HB⟩
end Go.Proofs.YtbahpbinilnfoaaDoor
/- The document's answer of layer 5: Program. -/
namespace Go.Proofs.YtbahpbinilnfoaaDoor
open Go.RowKit
open Ex.size Ex.depth Ex.lies Ex.bulk Ex.good Ex.shape Ex.text
attribute [local go_sem] later_size later_cell later_frozen later_setCell later_drew later_drewN later_tape drewN_setCell drewN_alloc drewN_later later_later lt_more lt_more1 lt_more2 lt_more3 lt_more4 lk0_0_1 lk1_0_1 lk2_0_1 lk0_0_2 lk1_0_2 lk2_0_2 lk0_1_2 lk0_0_3 lk1_0_3 lk2_0_3 lk0_1_3 lk0_2_3 lk0_0_4 lk1_0_4 lk2_0_4 lk0_1_4 lk0_2_4 lk0_3_4 lk0_0_5 lk1_0_5 lk2_0_5 lk0_1_5 lk0_2_5 lk0_3_5 lk0_4_5 lk0_0_6 lk1_0_6 lk2_0_6 lk0_1_6 lk0_2_6 lk0_3_6 lk0_4_6 lk0_5_6 lk0_0_7 lk1_0_7 lk2_0_7 lk0_1_7 lk0_2_7 lk0_3_7 lk0_4_7 lk0_5_7 lk0_6_7
theorem pms_rates {rate due : Bool} {l : List Pm} (h : l.all (pmsB rate due) = true) : ∀ p ∈ l, p.rt = true → 0 ≤ p.pd ∧ 0 ≤ p.st := fun p hp hr => by
  have := List.all_eq_true.1 h p hp
  simp only [pmsB, pmB, pmNums, Bool.and_eq_true, hr, if_true, decide_eq_true_eq] at this
  have h1 := this.1.1.2.2
  omega
theorem node_ref (n : Nd) (hg : n.good) (hnum : n.nums) (hf : fewB n = true) (hb : ndB n = true) (hsz : eqSizes n.eqs ≤ 1048576) (w : World) (hl : n.lies w) :
    Calls Tryd.prog 14 #[n.val] w fun r w' => r = .returned (.string ⟨n.text.toArray⟩) ∧ Below w.heap.size w w' := by
  have hlen : n.text.length ≤ 1000000000 := by have := nd_len hf hb hnum hg; omega
  have hf' := hf
  have hb' := hb
  simp only [fewB, decide_eq_true_eq] at hf'
  obtain ⟨f1, f2, f3, f4⟩ := hf'
  obtain ⟨-, g1, g2, g3, g4, -, -, -, g8⟩ := hg
  obtain ⟨m1, m2, m3, m4⟩ := hnum
  simp only [ndB, Bool.and_eq_true] at hb'
  obtain ⟨⟨-, ⟨b1, b2⟩, b3⟩, b4⟩ := hb'
  have each : ∀ (rate due : Bool) (l : List Pm) (a : Option Addr) (c : Nat), l.length ≤ 32 → l.all (pmsB rate due) = true → (∀ p ∈ l, p.wf) → RPms l a c := fun rate due l a c hl hp hw w hr =>
    params_ref l a c (by omega) (fun p hpm => ⟨hw p hpm, pms_types hp p hpm, pms_rates hp p hpm⟩) (by have := pms_len (fun p hpm => ⟨pms_names hp p hpm, hw p hpm⟩) hl; omega) w hr
  have hin : RPms n.ins n.ia n.ic := each _ _ _ _ _ f1 b1 m1
  have hout : RPms n.outs n.oa n.oc := each _ _ _ _ _ f2 b2 m2
  have hvar : RPms n.vars n.va n.vc := each _ _ _ _ _ f3 b3 m3
  have hq : ∀ q ∈ n.eqs, RText q.e ∧ 1 ≤ q.ns.length ∧ q.ns.length ≤ 32 := fun q hq => by
    have e1 := List.all_eq_true.1 b4 q hq
    simp only [eqB, Bool.and_eq_true, decide_eq_true_eq] at e1
    obtain ⟨⟨⟨e2, e3⟩, e4⟩, e5⟩ := e1
    obtain ⟨k3, k4, k5, k6⟩ := g8 q hq
    exact ⟨rtext_all _ q.e (Nat.le_refl _) (Nat.le_trans (size_bulk q.e) k6) e5 k5, e2, e3⟩
  obtain ⟨fl, nm, pl, ia, ic, ins, oa, oc, outs, va, vc, vars, qa, qc, eqs⟩ := n
  by_cases hv0 : vars = []
  · subst hv0
    cases fl
    · exact node_ref_00 hin hout g4 hq hlen w hl
    · exact node_ref_10 hin hout g4 hq hlen w hl
  · cases fl
    · exact node_ref_01 hin hout hvar hv0 g3 g4 hq hlen w hl
    · exact node_ref_11 hin hout hvar hv0 g3 g4 hq hlen w hl
theorem nds_at (l : List Nd) (k : Nat) (h : k < l.length) : ndsText (l.take (k + 1)) = ndsText (l.take k) ++ l[k].text := by
  unfold ndsText
  rw [List.take_succ_eq_append_getElem h, List.map_append, List.flatten_append]
  simp only [List.map_cons, List.map_nil, List.flatten_cons, List.flatten_nil, List.append_nil]
theorem eqSizes_nds {l : List Nd} {n : Nd} (h : n ∈ l) : eqSizes n.eqs ≤ ndSizes l := by
  induction l with
  | nil => cases h
  | cons y r ih =>
    simp only [ndSizes]
    rcases List.mem_cons.1 h with rfl | h
    · omega
    · have := ih h; omega
theorem nds_take (l : List Nd) (k : Nat) : (ndsText (l.take k)).length ≤ (ndsText l).length := by
  have h : ndsText l = ndsText (l.take k) ++ ndsText (l.drop k) := by
    unfold ndsText
    rw [← List.flatten_append, ← List.map_append, List.take_append_drop]
  rw [h, List.length_append]
  omega
set_option maxRecDepth 100000 in
set_option maxHeartbeats 6400000 in
theorem program_ref (l : List Nd) (a : Option Addr) (cap : Nat) (hg : Goods l) (hm : ∀ n ∈ l, n.nums) (w : World) (hl : Lie w a l) :
    Calls Tryd.prog 6 #[.agg #[.slice a l.length cap]] w fun x w' => x = .returned (.tuple #[.string (progOut l).1, .int .i64 (progOut l).2]) ∧ Below w.heap.size w w' := by
  obtain ⟨n, hn⟩ : ∃ n, n = l.length := ⟨_, rfl⟩
  obtain ⟨W0, hW0⟩ : ∃ W0, W0 = w.alloc (.cells #[.slice a n cap] 25) := ⟨_, rfl⟩
  have hs0 : W0.heap.size = w.heap.size + 1 := by rw [hW0]; simp
  have hb0 : Below w.heap.size w W0 := by rw [hW0]; exact (Below.refl _ _).alloc (Nat.le_refl _) _
  have hbx : W0.heap[w.heap.size]? = some (.cells #[.slice a n cap] 25 (0, 0)) := by rw [hW0]; exact heap_at rfl
  have CM := may_ref l a cap hg W0 (hl.below hb0)
  have HO : Hid (progOut l = if mayOf l = 0 then outOf (ndsText l) else (⟨#[]⟩, mayOf l)) := rfl
  have HOut : Hid (outOf (ndsText l) = if 65536 < (ndsText l).length then (⟨#[]⟩, 4) else (⟨(ndsText l).toArray⟩, 0)) := rfl
  have HCT : Hid (mayOf l = 0 → ∀ (k : Nat) (h : k < l.length) w', Below W0.heap.size W0 w' → Calls Tryd.prog 14 #[l[k].val] w' fun x w'' => x = .returned (.string ⟨l[k].text.toArray⟩) ∧ Below w'.heap.size w' w'') := fun hm0 k h w' hb' => by
    obtain ⟨m1, m2, m3⟩ := may_ok hm0
    have hk := List.getElem_mem h
    exact node_ref l[k] (hg.1 _ hk) (hm _ hk) (m3 _ hk).1 (m3 _ hk).2 (by have := eqSizes_nds hk; omega) w' (Nd.lies_below (hl.2 _ hk) (hb0.trans (hb'.mono (by omega))))
  have HTL : Hid (mayOf l = 0 → (ndsText l).length ≤ 100000000) := fun hm0 => by
    obtain ⟨m1, m2, m3⟩ := may_ok hm0
    have hlen := nds_len (l := l) fun n hn => ⟨(m3 n hn).1, (m3 n hn).2, hm n hn, hg.1 n hn⟩
    have h64 : l.length * 153000 ≤ 64 * 153000 := Nat.mul_le_mul_right _ m1
    omega
  have B0 : Hid _ := keep_cell (show W0.cell? ⟨w.heap.size, 0, none⟩ = some (.slice a n cap) by rw [cell_of_row hbx]; rfl)
  have hnb : n ≤ 1048576 := by rw [hn]; exact hg.2.1
  have HLL : Hid _ := hl.1
  have HN : Hid (n = l.length) := hn
  have HW0 : Hid _ := hW0
  have HS0 : Hid _ := hs0
  have HB0 : Hid _ := hb0
  have HUp : Hid (∀ w', Below W0.heap.size W0 w' → Below w.heap.size w w') := fun w' h => hb0.trans (h.mono (by omega))
  rw [← hn] at CM ⊢
  clear hn hW0 hs0 hb0 hbx hl hg hm
  generalize hou : outOf (ndsText l) = out at *
  clear hou
  generalize progOut l = res at *
  generalize mayOf l = om at *
  go_enter Tryd.func6, Tryd.ntmps6
  go_wp2_with fail
  rw [← HW0.out]
  have f0 := B0.out W0 (Below.refl _ _)
  refine CM.mono ?_
  rintro x w1 ⟨rfl, hb1⟩
  have HB1 : Hid (Below W0.heap.size W0 w1) := hb1
  have f1 := B0.out w1 HB1
  clear CM hb1 f0
  by_cases hm : om = 0
  · have HO1 : Hid (res = out) := by rw [Hid, HO.out, if_pos hm]
    have HC := HCT.out hm
    have hTL := HTL.out hm
    have HTt : Hid _ := hTL
    have HCC : Hid _ := HC
    subst hm
    clear HC hTL
    go_wp2_with fail
    go_loopw [5, 6] (fun s i wr => ∃ k : Nat, k ≤ n ∧ i = .int .i64 k ∧ s = .string ⟨(ndsText (l.take k)).toArray⟩ ∧ Hid (Below W0.heap.size W0 wr)) (fun _ i _ => n - (intOf i).toNat)
    case atStart => exact ⟨0, by omega, rfl, by simp [ndsText], HB1⟩
    case round =>
      obtain ⟨k, hk, rfl, rfl, HB⟩ := hrel
      have b0 := B0.out wr HB
      by_cases hlt : k < n
      · have hkl : k < l.length := by rw [← HN.out]; exact hlt
        obtain ⟨bA, oA, rfl, hbA, hrow⟩ := HLL.out (by intro h; rw [h] at hkl; simp at hkl)
        have hcr := old_cells (n := 7) (HUp.out wr HB.out) hbA (fun j hj => hrow k hkl j hj)
        have CT := HCC.out k hkl wr HB.out
        have HF : Hid (ndsText (l.take (k + 1)) = ndsText (l.take k) ++ l[k].text) := nds_at l k hkl
        have hbl : (ndsText (l.take (k + 1))).length ≤ 100000000 := Nat.le_trans (nds_take l (k + 1)) HTt.out
        have HSw : Hid (W0.heap.size ≤ wr.heap.size) := HB.out.size
        obtain ⟨Z0, hZ0⟩ : ∃ S, S = ndsText (l.take k) := ⟨_, rfl⟩
        rw [HF.out, ← hZ0, List.length_append] at hbl
        have HZ0 : Hid _ := hZ0
        rw [← hZ0]
        obtain ⟨X, hX⟩ : ∃ X, X = l[k].text := ⟨_, rfl⟩
        have HX : Hid _ := hX
        rw [← hX] at hbl CT
        have t0 : ∀ W, (Op.stringOp .add ⟨Z0.toArray⟩ ⟨X.toArray⟩).run Tryd.prog W = .ok (.string ⟨(Z0 ++ X).toArray⟩) W := fun W => add_text W Z0 X (by omega)
        clear hZ0 hX hbl hrow hbA
        have HFX : Hid (ndsText (l.take (k + 1)) = Z0 ++ X) := by rw [Hid, HF.out, HZ0.out, HX.out]
        clear HF HX
        generalize l[k] = y at *
        clear hkl
        obtain ⟨fl, nm, pl, ia, ic, ins, oa, oc, outs, va, vc, vars, qa, qc, eqs⟩ := y
        generalize hn1 : ins.length = n1 at *
        generalize hn2 : outs.length = n2 at *
        generalize hn3 : vars.length = n3 at *
        generalize hn4 : eqs.length = n4 at *
        simp only [Nd.val, Nd.cells, List.toArray, hn1, hn2, hn3, hn4] at CT hcr
        have d0 : wr.cell? ⟨bA, oA + k * 7, none⟩ = some (.bool fl) := hcr 0 (by omega)
        have d1 : wr.cell? ⟨bA, oA + k * 7 + 1, none⟩ = some (.string nm) := hcr 1 (by omega)
        have d2 : wr.cell? ⟨bA, oA + k * 7 + 2, none⟩ = some (.int .i64 pl) := hcr 2 (by omega)
        have d3 : wr.cell? ⟨bA, oA + k * 7 + 3, none⟩ = some (.slice ia n1 ic) := hcr 3 (by omega)
        have d4 : wr.cell? ⟨bA, oA + k * 7 + 4, none⟩ = some (.slice oa n2 oc) := hcr 4 (by omega)
        have d5 : wr.cell? ⟨bA, oA + k * 7 + 5, none⟩ = some (.slice va n3 vc) := hcr 5 (by omega)
        have d6 : wr.cell? ⟨bA, oA + k * 7 + 6, none⟩ = some (.slice qa n4 qc) := hcr 6 (by omega)
        clear hcr hn1 hn2 hn3 hn4
        go_wp2_with fail
        refine Calls.mono CT ?_
        rintro r w7 ⟨rfl, hb7⟩
        have HB7 : Hid (Below W0.heap.size W0 w7) := HB.out.trans (hb7.mono HSw.out)
        clear hb7
        go_wp2_with fail
        go_roundw
        case rel => exact ⟨k + 1, by omega, by go_num, by rw [HFX.out], HB7⟩
        case measure => simp [intOf]; omega
      · obtain rfl : k = n := by omega
        have HE : Hid (l.take k = l) := by rw [Hid, HN.out, List.take_length]
        rw [HE.out]
        obtain ⟨TT, hTT⟩ : ∃ T, T = ndsText l := ⟨_, rfl⟩
        have HT2 : Hid _ := hTT
        rw [← hTT]
        obtain ⟨tl, htl⟩ : ∃ tl, tl = TT.length := ⟨_, rfl⟩
        have hsz : (ByteArray.mk TT.toArray).size = tl := by rw [htl]; rfl
        have hlen : tl ≤ 100000000 := by rw [htl, hTT]; exact HTt.out
        by_cases hlt2 : 65536 < tl
        · have HOut1 : Hid (out = (⟨#[]⟩, 4)) := by rw [Hid, HOut.out, if_pos (by rw [← hTT, ← htl]; exact hlt2)]
          clear htl hTT
          go_wp2_with fail
          go_ret2
          exact ⟨by rw [HO1.out, HOut1.out]; rfl, HUp.out wr HB.out⟩
        · have HOut1 : Hid (out = (⟨TT.toArray⟩, 0)) := by rw [Hid, HOut.out, if_neg (by rw [← hTT, ← htl]; exact hlt2), ← hTT]
          clear htl hTT
          go_wp2_with fail
          go_ret2
          exact ⟨by rw [HO1.out, HOut1.out]; rfl, HUp.out wr HB.out⟩
  · have HO1 : Hid (res = (⟨#[]⟩, om)) := by rw [Hid, HO.out, if_neg hm]
    have hm2 : (om == 0) = false := beq_false_of_ne hm
    go_wp2_with fail
    go_ret2
    exact ⟨by rw [HO1.out]; rfl, HUp.out w1 HB1.out⟩
end Go.Proofs.YtbahpbinilnfoaaDoor
