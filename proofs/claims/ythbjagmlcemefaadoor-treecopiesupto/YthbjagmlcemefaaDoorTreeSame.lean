/- The program's Same. -/
import Derived.Test.YthbjagmlcemefaaDoorTreeSamePlain
import Derived.Test.YthbjagmlcemefaaDoorTreeAlike
namespace Go.Proofs.YthbjagmlcemefaaDoor
open Go.RowKit
open Ex.size Ex.depth Ex.lies Ex.bulk Ex.good Ex.same
attribute [local go_sem] later_size later_cell later_frozen later_setCell later_drew later_drewN later_tape drewN_setCell drewN_alloc drewN_later later_later lt_more lt_more1 lt_more2 lt_more3 lt_more4 lk0_0_1 lk1_0_1 lk2_0_1 lk0_0_2 lk1_0_2 lk2_0_2 lk0_1_2 lk0_0_3 lk1_0_3 lk2_0_3 lk0_1_3 lk0_2_3 lk0_0_4 lk1_0_4 lk2_0_4 lk0_1_4 lk0_2_4 lk0_3_4 lk0_0_5 lk1_0_5 lk2_0_5 lk0_1_5 lk0_2_5 lk0_3_5 lk0_4_5 lk0_0_6 lk1_0_6 lk2_0_6 lk0_1_6 lk0_2_6 lk0_3_6 lk0_4_6 lk0_5_6 lk0_0_7 lk1_0_7 lk2_0_7 lk0_1_7 lk0_2_7 lk0_3_7 lk0_4_7 lk0_5_7 lk0_6_7
def Pr.ok (B : Nat) (w W : World) (p : Pr) : Prop := p.full ∧ StillS B w W p.aa p.la ∧ StillS B w W p.ab p.lb
def SameRel (B c : Nat) (w W : World) (q : Bool) (wr : World) (m : Nat) : Prop :=
  ∃ ps : List Pr, m = prSizes ps ∧ prSizes ps ≤ 2097152 ∧ SBox B c ps wr ∧ Below B W wr ∧ B ≤ wr.heap.size ∧ (∀ p ∈ ps, p.ok B w W) ∧ okAll ps = q
/-- One pair of lists, by alike. -/
theorem pair_calls (B c : Nat) (w W : World) (_hbw : Below w.heap.size w W) (_hwB : w.heap.size ≤ B) (hBW : B ≤ W.heap.size) (hBc : B ≤ c) (ps : List Pr) (p : Pr) (hok : ∀ x ∈ ps ++ [p], x.ok B w W) (hsz : prSizes (ps ++ [p]) ≤ 2097152) (w1 : World) (hs : SBox B c ps w1) (hb : Below B W w1) :
    Calls Tryd.prog 43 #[.slice p.aa p.la.length p.ca, .slice p.ab p.lb.length p.cb, .func (.func 42) #[] #[.pointer (some ⟨c, 0, none⟩)]] w1
      fun r w' => ∃ q, r = .returned (.bool q) ∧ Below B W w' ∧ (q = true → SBox B c (ps ++ pushes p.la p.lb) w' ∧ p.la.length = p.lb.length ∧ tops p.la p.lb = true) ∧ (q = false → okPr p = false) := by
  obtain ⟨hfull, hsa, hsb⟩ := hok p (by simp)
  rw [prSizes_app] at hsz
  simp only [prSizes, Nat.add_zero] at hsz
  have hl1 := len_le_sizes p.la
  have hl2 := len_le_sizes p.lb
  have hps := full_len (ps := ps) fun x hx => (hok x (by simp [hx])).1
  refine (alikeExpr_calls 42 #[.pointer (some ⟨c, 0, none⟩)] (enters_of Tryd.func42 (by kernel_rfl) rfl) p.la p.lb p.aa p.ab p.ca p.cb w1
    (fun k w' => Below B W w' ∧ SBox B c (ps ++ pushes (p.la.take k) (p.lb.take k)) w' ∧ tops (p.la.take k) (p.lb.take k) = true) (fun w' => Below B W w' ∧ okPr p = false)
    (fun hne => by
      obtain ⟨b, o, h1, h2, h3⟩ := hsa.1 hne
      exact ⟨b, o, h1, fun k w' hI i hi j hj => (hI.1.cell (p := ⟨b, _, none⟩) h2).trans (h3 i hi j hj)⟩)
    (fun hne => by
      obtain ⟨b, o, h1, h2, h3⟩ := hsb.1 hne
      exact ⟨b, o, h1, fun k w' hI i hi j hj => (hI.1.cell (p := ⟨b, _, none⟩) h2).trans (h3 i hi j hj)⟩)
    (fun k w' q hI => ⟨⟨hI.1.os, hI.1.tape, hI.1.output, hI.1.size, hI.1.block⟩, hI.2.1, hI.2.2⟩)
    (fun k hk hk' w' hI => by
      have hx := hsa.2.1 p.la[k] (List.getElem_mem hk)
      have hy := hsb.2.1 p.lb[k] (List.getElem_mem hk')
      have hpk := prSizes_take p.la p.lb k
      have hxa := len_args_few hx.2
      have hya := len_args_few hy.2
      have hlen : (ps ++ pushes (p.la.take k) (p.lb.take k)).length ≤ 2097152 := by
        have h := full_len (ps := ps ++ pushes (p.la.take k) (p.lb.take k)) fun x hx => by
          rcases List.mem_append.1 hx with hx | hx
          · exact (hok x (by simp [hx])).1
          · obtain ⟨_, _, _, _, h⟩ := pushes_mem hx
            exact (pushOf_full h).1
        rw [prSizes_app] at h
        omega
      refine (same1_calls p.la[k] p.lb[k] B c _ w' hI.2.1 (Nat.le_trans hBW hI.1.size) hBc hlen hxa hya).mono ?_
      rintro r w2 ⟨rfl, hb2, hs2⟩
      have hB2 : Below B W w2 := hI.1.trans hb2
      refine ⟨_, rfl, fun h => ⟨hB2, ?_, ?_⟩, fun h => ⟨hB2, ?_⟩⟩
      · rw [pushes_at _ _ k hk hk', ← List.append_assoc]
        exact hs2
      · rw [tops_at _ _ k hk hk', hI.2.2, h]
        rfl
      · rw [okPr, sames_tops, tops_false _ _ k hk hk' h]
        simp)
    ⟨hb, by simpa [pushes] using hs, by simp [tops]⟩ hsa.2.2 hsb.2.2).mono ?_
  rintro r w' ⟨q, rfl, h1, h2⟩
  cases q
  · refine ⟨false, rfl, ?_, fun h => (by cases h), fun _ => ?_⟩
    · rcases h2 rfl with h | h
      · exact h.2.1
      · exact h.1
    · rcases h2 rfl with h | h
      · rw [okPr]
        simp [h.1]
      · exact h.2
  · obtain ⟨e1, e2, e3, e4⟩ := h1 rfl
    rw [List.take_length, e1, List.take_length] at e3 e4
    exact ⟨true, rfl, e2, fun _ => ⟨e3, e1, e4⟩, fun h => by cases h⟩
set_option maxRecDepth 100000 in
set_option maxHeartbeats 6400000 in
theorem same_prog (x y : Ex) (hx : x.bulk ≤ 1048576) (hy : y.bulk ≤ 1048576) (w : World) (hlx : x.lies w) (hly : y.lies w) : Calls Tryd.prog 16 #[x.val, y.val] w fun r w' => r = .returned (.bool (x.same y)) ∧ Below w.heap.size w w' := by
  obtain ⟨W, hW⟩ : ∃ W : World, W = (((((w.alloc (.cells x.cells.toArray 33)).alloc (.cells y.cells.toArray 33)).alloc (.cells x.cells.toArray 33)).alloc (.cells y.cells.toArray 33)).alloc (.cells #[.slice (some ⟨w.heap.size + 2, 0, none⟩) 1 1, .slice (some ⟨w.heap.size + 3, 0, none⟩) 1 1] 69)).alloc (.cells #[.slice (some ⟨w.heap.size + 4, 0, none⟩) 1 1] 70) := ⟨_, rfl⟩
  have hWs : W.heap.size = w.heap.size + 6 := by rw [hW]; simp
  have hbel : Below w.heap.size w W := by
    rw [hW]
    exact ((((((Below.refl _ _).alloc (Nat.le_refl _) _).alloc (by simp) _).alloc (by simp; omega) _).alloc (by simp; omega) _).alloc (by simp; omega) _).alloc (by simp; omega) _
  have hsx := size_bulk x
  have hsy := size_bulk y
  have hx2 : ∀ j, j < 6 → W.cell? ⟨w.heap.size + 2, j, none⟩ = x.cells[j]? := fun j hj => by
    rw [hW, World.cell?_alloc_past _ _ _ (by simp), World.cell?_alloc_past _ _ _ (by simp), World.cell?_alloc_past _ _ _ (by simp)]
    exact cell_alloc_eq (by simp)
  have hy3 : ∀ j, j < 6 → W.cell? ⟨w.heap.size + 3, j, none⟩ = y.cells[j]? := fun j hj => by
    rw [hW, World.cell?_alloc_past _ _ _ (by simp), World.cell?_alloc_past _ _ _ (by simp)]
    exact cell_alloc_eq (by simp)
  have hstart : SameRel (w.heap.size + 4) (w.heap.size + 5) w W (x.same y) W (prSizes [⟨some ⟨w.heap.size + 2, 0, none⟩, 1, [x], some ⟨w.heap.size + 3, 0, none⟩, 1, [y]⟩]) := by
    refine ⟨_, rfl, by simp [prSizes, sizes]; omega, ⟨.slice (some ⟨w.heap.size + 4, 0, none⟩) 1 1, by rw [hW]; exact heap_alloc_eq (by simp), ?_⟩, Below.refl _ _, by omega, ?_, by simp [okAll, okPr, sames]⟩
    · rw [hW]
      have := World.ownsRow_lit (base := w.heap.size + 4) (e := 69) (size := 2) ((((w.alloc (.cells x.cells.toArray 33)).alloc (.cells y.cells.toArray 33)).alloc (.cells x.cells.toArray 33)).alloc (.cells y.cells.toArray 33)) #[.slice (some ⟨w.heap.size + 2, 0, none⟩) 1 1, .slice (some ⟨w.heap.size + 3, 0, none⟩) 1 1] 1 (by simp) (by unfold maxLen; omega) rfl
      have h2 := this.alloc (.cells #[.slice (some ⟨w.heap.size + 4, 0, none⟩) 1 1] 70)
      simpa [prCells, Pr.cells] using h2
    · intro p hp
      rw [List.mem_singleton] at hp
      subst hp
      refine ⟨.inl (by simp), ⟨fun _ => ⟨_, _, rfl, by omega, fun i hi j hj => ?_⟩, fun e he => ?_, by simp⟩, ⟨fun _ => ⟨_, _, rfl, by omega, fun i hi j hj => ?_⟩, fun e he => ?_, by simp⟩⟩
      · obtain rfl : i = 0 := by simpa using hi
        simpa using hx2 j hj
      · rw [List.mem_singleton] at he
        subst he
        exact ⟨hlx, hx⟩
      · obtain rfl : i = 0 := by simpa using hi
        simpa using hy3 j hj
      · rw [List.mem_singleton] at he
        subst he
        exact ⟨hly, hy⟩
  generalize hq : x.same y = q at *
  have HStart : Hid _ := hstart
  have HBel : Hid _ := hbel
  have HWs : Hid _ := hWs
  clear hstart hbel hWs hx2 hy3 hq hlx hly hx hy hsx hsy
  obtain ⟨kd, pl, nm, it, dn, a, cap, l⟩ := x
  obtain ⟨kd', pl', nm', it', dn', a', cap', l'⟩ := y
  simp only [Ex.val, Ex.cells, List.toArray] at *
  have HW : Hid _ := hW
  clear hW
  go_enter Tryd.func16, Tryd.ntmps16
  go_wp2_with fail
  go_loopw [4] (fun v wr => v = .bool false ∧ ∃ m, Hid (SameRel (w.heap.size + 4) (w.heap.size + 5) w W q wr m)) (fun _ wr => Classical.epsilon fun m => Hid (SameRel (w.heap.size + 4) (w.heap.size + 5) w W q wr m) ∧ ∀ k, Hid (SameRel (w.heap.size + 4) (w.heap.size + 5) w W q wr k) → m ≤ k)
  case atStart => exact ⟨rfl, _, by rw [← HW.out]; exact HStart⟩
  case round =>
    obtain ⟨rfl, hrel⟩ := hrel
    obtain ⟨h1, h2⟩ := least_spec hrel
    have HM1 : Hid _ := h2
    clear hrel h2
    obtain ⟨ps, hm, hsz, ⟨v, hbx, hown⟩, hbW, hBr, hok, hqa⟩ := h1.out
    have HM : Hid _ := hm
    clear hm h1
    have a1 := cell_of_one hbx
    have f1 := free_of_one hbx
    rcases List.eq_nil_or_concat ps with rfl | ⟨ps, p, rfl⟩
    · have hu : ∃ a cp, v = .slice a 0 cp := by
        rcases hown.2 with ⟨rfl, _⟩ | ⟨g, cap, cur, rfl, _⟩
        · exact ⟨_, _, rfl⟩
        · exact ⟨_, _, rfl⟩
      obtain ⟨a, cp, rfl⟩ := hu
      have HQ : Hid (true = q) := hqa
      have HB : Hid (Below w.heap.size w wr) := HBel.out.trans (hbW.mono (by omega))
      clear hown hbW hok HM HM1 hsz hqa hbx
      go_wp2_with fail
      go_ret
      exact ⟨same_ret HQ.out, HB.out⟩
    · simp only [List.concat_eq_append] at *
      have hshape : ∃ g cap, v = .slice (some ⟨g, 0, none⟩) (ps.length + 1) cap ∧ w.heap.size + 4 ≤ g ∧ ps.length + 1 ≤ cap ∧ cap ≤ maxLen := by
        rcases hown.2 with ⟨_, h0⟩ | ⟨g, cap, cur, rfl, hg, _, hcc, hcm, _⟩
        · simp at h0
        · exact ⟨g, cap, by simp, hg, by simpa using hcc, hcm⟩
      obtain ⟨g, cap, rfl, hg, hcap, hcapm⟩ := hshape
      simp only [List.length_append, List.length_cons, List.length_nil, Nat.zero_add] at hown
      obtain ⟨k0, k1⟩ := prow_cell ps p hown
      have hpl := full_len (ps := ps ++ [p]) fun x hx => (hok x hx).1
      simp only [List.length_append, List.length_cons, List.length_nil, Nat.zero_add] at hpl
      have hnn : ps.length ≤ 2097151 := by omega
      have hlt := lt_of_block hbx
      obtain ⟨W1, hW1⟩ : ∃ W1 : World, W1 = (wr.setCell ⟨w.heap.size + 5, 0, none⟩ (.slice (some ⟨g, 0, none⟩) ps.length cap)).alloc (.cells #[.slice p.aa p.la.length p.ca, .slice p.ab p.lb.length p.cb] 69) := ⟨_, rfl⟩
      have hne := row_ne_box hown hbx
      have hs1 : SBox (w.heap.size + 4) (w.heap.size + 5) ps W1 := by
        rw [hW1]
        refine ⟨_, (Below.heap_alloc _ _ _ (by simpa using hlt)).trans (one_setCell hbx), ?_⟩
        refine (ownsRow_setCell_other ?_ (fun e => hne e.symm) _).alloc _
        refine ownsRow_pop (xs := prCells ps) (prCells_len ps) (last := p.cells) ?_
        rw [prCells_app] at hown
        simpa [prCells] using hown
      have hb1 : Below (w.heap.size + 4) W W1 := by
        rw [hW1]
        exact (hbW.setCell (by show w.heap.size + 4 ≤ w.heap.size + 5; omega) _).alloc (by simp; omega) _
      have CC := pair_calls (w.heap.size + 4) (w.heap.size + 5) w W HBel.out (by omega) (by have := HWs.out; omega) (by omega) ps p hok hsz W1 hs1 hb1
      have HOk : Hid _ := hok
      have HSz : Hid _ := hsz
      have HQA : Hid _ := hqa
      have HW1 : Hid _ := hW1
      have HBr : Hid _ := hBr
      have HSzW : Hid (wr.heap.size ≤ W1.heap.size) := by rw [Hid, hW1]; simp
      clear hok hsz hqa hs1 hb1 hne hown hbx hbW hW1 hpl hBr
      go_wp2_with fail
      have e1 := HW1.out
      subst e1
      refine CC.mono ?_
      rintro r w2 ⟨t, rfl, hb2, ht, hf⟩
      have HB2 : Hid _ := hb2
      have HT : Hid _ := ht
      have HF : Hid _ := hf
      clear CC k0 k1 a1 f1 hb2 ht hf HW1
      cases t
      · have HQ : Hid (false = q) := by
          rw [Hid, ← HQA.out, okAll_app]
          simp [okAll, HF.out rfl]
        have HB : Hid (Below w.heap.size w w2) := HBel.out.trans (HB2.out.mono (by omega))
        go_wp2_with fail
        go_ret
        exact ⟨same_ret HQ.out, HB.out⟩
      · have HEnd : Hid (SameRel (w.heap.size + 4) (w.heap.size + 5) w W q w2 (prSizes (ps ++ pushes p.la p.lb))) := by
          obtain ⟨t1, t2, t3⟩ := HT.out rfl
          have h3 := HSz.out
          have h4 := prSizes_pushes p.la p.lb
          rw [prSizes_app] at h3
          simp only [prSizes, Nat.add_zero] at h3
          refine ⟨_, rfl, by rw [prSizes_app]; omega, t1, HB2.out, by have := HB2.out.size; have := HWs.out; omega, ?_, ?_⟩
          · intro z hz
            rcases List.mem_append.1 hz with hz | hz
            · exact HOk.out z (by simp [hz])
            · obtain ⟨x, hx, y, hy, h⟩ := pushes_mem hz
              obtain ⟨hfu, rfl⟩ := pushOf_full h
              obtain ⟨-, hA, hB⟩ := HOk.out p (by simp)
              exact ⟨hfu, still_args HBel.out (by omega) (hA.2.1 x hx).1 (hA.2.1 x hx).2, still_args HBel.out (by omega) (hB.2.1 y hy).1 (hB.2.1 y hy).2⟩
          · rw [← HQA.out, okAll_app, okAll_app]
            congr 1
            have := sames_tops p.la p.lb
            rw [t3, Bool.true_and] at this
            simp [okAll, okPr, t2, this]
        have HLess : Hid (prSizes (ps ++ pushes p.la p.lb) < prSizes (ps ++ [p])) := by
          obtain ⟨t1, t2, t3⟩ := HT.out rfl
          have h4 := prSizes_pushes p.la p.lb
          have h5 : 0 < p.la.length := by
            rcases (HOk.out p (by simp)).1 with h | h
            · exact List.length_pos_iff.2 h
            · rw [t2]; exact List.length_pos_iff.2 h
          rw [Hid, prSizes_app, prSizes_app]
          simp only [prSizes, Nat.add_zero]
          omega
        go_wp2_with fail
        go_roundw
        case rel => exact ⟨rfl, _, HEnd⟩
        case measure =>
          have h3 := (least_spec ⟨_, HEnd⟩).2 _ HEnd
          refine Nat.lt_of_le_of_lt h3 (Nat.lt_of_lt_of_eq HLess.out HM.out.symm)
end Go.Proofs.YthbjagmlcemefaaDoor
