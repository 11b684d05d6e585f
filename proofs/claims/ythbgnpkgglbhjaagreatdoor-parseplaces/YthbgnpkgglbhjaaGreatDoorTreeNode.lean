/- The program's eqMay, nodeMay. -/
import Derived.Test.YthbgnpkgglbhjaaGreatDoorTreeParams
import Derived.Test.YthbgnpkgglbhjaaGreatDoorTreeWalks
namespace Go.Proofs.YthbgnpkgglbhjaaGreatDoor
open Go.RowKit
open Ex.size Ex.depth Ex.lies Ex.bulk Ex.good Ex.shape
attribute [local go_sem] later_size later_cell later_frozen later_setCell later_drew later_drewN later_tape drewN_setCell drewN_alloc drewN_later later_later lt_more lt_more1 lt_more2 lt_more3 lt_more4 lk0_0_1 lk1_0_1 lk2_0_1 lk0_0_2 lk1_0_2 lk2_0_2 lk0_1_2 lk0_0_3 lk1_0_3 lk2_0_3 lk0_1_3 lk0_2_3 lk0_0_4 lk1_0_4 lk2_0_4 lk0_1_4 lk0_2_4 lk0_3_4 lk0_0_5 lk1_0_5 lk2_0_5 lk0_1_5 lk0_2_5 lk0_3_5 lk0_4_5 lk0_0_6 lk1_0_6 lk2_0_6 lk0_1_6 lk0_2_6 lk0_3_6 lk0_4_6 lk0_5_6 lk0_0_7 lk1_0_7 lk2_0_7 lk0_1_7 lk0_2_7 lk0_3_7 lk0_4_7 lk0_5_7 lk0_6_7
/-- An equation within what is looked at. -/
def Eqn.good (q : Eqn) : Prop := (∀ s ∈ q.ns, s.size ≤ 1048576) ∧ q.ns.length ≤ 1048576 ∧ q.e.good ∧ q.e.bulk ≤ 1048576
def Nd.good (n : Nd) : Prop := n.nm.size ≤ 1048576 ∧ n.ins.length ≤ 1048576 ∧ n.outs.length ≤ 1048576 ∧ n.vars.length ≤ 1048576 ∧ n.eqs.length ≤ 1048576 ∧ (∀ p ∈ n.ins, p.nm.size ≤ 1048576) ∧ (∀ p ∈ n.outs, p.nm.size ≤ 1048576) ∧ (∀ p ∈ n.vars, p.nm.size ≤ 1048576) ∧ ∀ q ∈ n.eqs, q.good
def eqB (q : Eqn) : Bool := (decide (1 ≤ q.ns.length ∧ q.ns.length ≤ 32) && q.ns.all nameB) && q.e.shape
def ndB (n : Nd) : Bool := nameB n.nm && (n.ins.all (pmsB n.fl false) && n.outs.all (pmsB false n.fl) && n.vars.all (pmsB false false)) && n.eqs.all eqB
theorem take_all {α : Type} {f : α → Bool} {l : List α} {k : Nat} (h : k < l.length) (ht : (l.take k).all f = true) : (l.take (k + 1)).all f = f l[k] := by
  rw [List.take_succ_eq_append_getElem h, List.all_append, ht]
  simp
theorem all_false {α : Type} {f : α → Bool} {l : List α} {k : Nat} (h : k < l.length) (hf : f l[k] = false) : l.all f = false := by
  rw [List.all_eq_false]
  exact ⟨_, List.getElem_mem h, by rw [hf]; simp⟩
theorem all_true {α : Type} {f : α → Bool} {l : List α} {k : Nat} (h : k = l.length) (ht : (l.take k).all f = true) : l.all f = true := by rwa [h, List.take_length] at ht
set_option maxRecDepth 100000 in
set_option maxHeartbeats 6400000 in
theorem eqMay_calls (q : Eqn) (hg : q.good) (w : World) (hl : q.lies w) (ht : HasTab w) : Calls Tryz.prog 121 #[q.val] w fun x w' => x = .returned (.bool (eqB q)) ∧ Below w.heap.size w w' := by
  have hb0 : Below w.heap.size w (w.alloc (.cells q.cells.toArray 64)) := (Below.refl _ _).alloc (Nat.le_refl _) _
  have CE := fun W (h : Below w.heap.size w W) => exprMay_calls q.e hg.2.2.2 hg.2.2.1 W (lies_below h _ hl.2) (ht.below h)
  have HB0 : Hid _ := hb0
  have HQ : Hid (eqB q = ((decide (1 ≤ q.ns.length ∧ q.ns.length ≤ 32) && q.ns.all nameB) && q.e.shape)) := rfl
  generalize eqB q = qb at *
  generalize q.e.shape = qs at *
  have HG : Hid (∀ s ∈ q.ns, s.size ≤ 1048576) := hg.1
  have hn : q.ns.length ≤ 1048576 := hg.2.1
  have HL : Hid (rowIn textOf 1 w q.na q.ns) := hl.1
  obtain ⟨na, nc, ns, pq, ⟨kd, pl, nm, it, dn, a, cap, l⟩⟩ := q
  obtain ⟨n, hN⟩ : ∃ n, n = ns.length := ⟨_, rfl⟩
  have HN : Hid (n = ns.length) := hN
  simp only [Eqn.val, Eqn.cells, Ex.cells, Ex.val, List.toArray] at *
  rw [← hN] at hn HQ HB0 ⊢
  clear hN hg hl ht hb0
  by_cases h1 : 1 ≤ n ∧ n ≤ 32
  · have HQ2 : Hid (qb = (ns.all nameB && qs)) := by
      rw [Hid, HQ.out, decide_eq_true h1]
      simp
    obtain ⟨h1, h32⟩ := h1
    clear HQ
    go_enter Tryz.func121, Tryz.ntmps121
    go_wp2_with fail
    go_loopw [2, 18] (fun v i wr => ∃ k : Nat, k ≤ n ∧ v = .bool false ∧ i = .int .i64 k ∧ Hid (Below w.heap.size w wr) ∧ Hid ((ns.take k).all nameB = true) ∧ Hid (Below (w.heap.size + 1) (w.alloc (.cells #[.slice na n nc, .int .i64 pq, .int .u8 kd, .int .i64 pl, .string nm, .int .i64 it, .int .i64 dn, .slice a l.length cap] 64)) wr)) (fun _ i _ => n - (intOf i).toNat)
    case atStart => exact ⟨0, by omega, rfl, rfl, HB0, by simp [Hid], Below.refl _ _⟩
    case round =>
      obtain ⟨k, hk, rfl, rfl, HB, HT, HX⟩ := hrel
      by_cases hlt : k < n
      · have hkl : k < ns.length := by rw [← HN.out]; exact hlt
        obtain ⟨b, o, rfl, hbl, hrow⟩ := HL.out (by intro h; rw [h] at hkl; simp at hkl)
        have c0 : wr.cell? ⟨b, o + k, none⟩ = some (.string ns[k]) := by
          have := hrow k hkl 0 (by omega)
          rw [Nat.mul_one, Nat.add_zero] at this
          exact (HB.out.cell (p := ⟨b, o + k, none⟩) hbl).trans this
        have CC := lexName_calls ns[k] wr (HG.out _ (List.getElem_mem hkl))
        have HNx : Hid _ := take_all hkl HT.out
        have HFalse : Hid (nameB ns[k] = false → ns.all nameB = false) := fun h => all_false hkl h
        generalize nameB ns[k] = qn at *
        generalize ns[k] = y at *
        clear hrow
        go_wp2_with fail
        refine CC.mono ?_
        rintro x w2 ⟨rfl, hb⟩
        have HB2 : Hid (Below w.heap.size w w2) := HB.out.trans (hb.mono HB.out.size)
        have HX2 : Hid (Below (w.heap.size + 1) (w.alloc (.cells #[.slice (some ⟨b, o, none⟩) n nc, .int .i64 pq, .int .u8 kd, .int .i64 pl, .string nm, .int .i64 it, .int .i64 dn, .slice a l.length cap] 64)) w2) := HX.out.trans (hb.mono (by have := HX.out.size; simpa using this))
        clear hb CC c0 HB HX
        cases qn
        · go_wp2_with fail
          go_ret
          exact ⟨bool_ret (by rw [HQ2.out, HFalse.out (by first | rfl | trivial)]; rfl), HB2.out⟩
        · go_wp2_with fail
          go_roundw
          case rel => exact ⟨k + 1, by omega, rfl, by go_num, HB2, HNx, HX2⟩
          case measure => simp [intOf]; omega
      · obtain rfl : k = n := by omega
        have CC := CE wr HB.out
        have cx : ∀ j, j < 8 → wr.cell? ⟨w.heap.size, j, none⟩ = (#[.slice na k nc, .int .i64 pq, .int .u8 kd, .int .i64 pl, .string nm, .int .i64 it, .int .i64 dn, .slice a l.length cap] : Array Value)[j]? := fun j hj => by
          rw [HX.out.cell (p := ⟨w.heap.size, j, none⟩) (by show w.heap.size < w.heap.size + 1; omega), World.cell?_alloc_at _ _ _ _ rfl]
        have x2 := cx 2 (by omega)
        have x3 := cx 3 (by omega)
        have x4 := cx 4 (by omega)
        have x5 := cx 5 (by omega)
        have x6 := cx 6 (by omega)
        have x7 := cx 7 (by omega)
        simp at x2 x3 x4 x5 x6 x7
        have HAll : Hid _ := all_true HN.out HT.out
        clear cx CE
        go_wp2_with fail
        refine CC.mono ?_
        rintro x w2 ⟨rfl, hb⟩
        have HB2 : Hid (Below w.heap.size w w2) := HB.out.trans (hb.mono HB.out.size)
        clear hb CC x2 x3 x4 x5 x6 x7
        go_wp2_with fail
        go_ret
        exact ⟨bool_ret (by rw [HQ2.out, HAll.out]; rfl), HB2.out⟩
  · have HQ2 : Hid (qb = false) := by
      rw [Hid, HQ.out, decide_eq_false h1]
      simp
    clear HQ CE
    go_enter Tryz.func121, Tryz.ntmps121
    go_wp2_with fail
    all_goals first
      | (go_ret; exact ⟨bool_ret HQ2.out.symm, HB0.out⟩)
      | (exfalso; omega)
set_option maxRecDepth 100000 in
set_option maxHeartbeats 6400000 in
theorem nodeMay_calls (nd : Nd) (hg : nd.good) (w : World) (hl : nd.lies w) (ht : HasTab w) : Calls Tryz.prog 89 #[nd.val] w fun x w' => x = .returned (.bool (ndB nd)) ∧ Below w.heap.size w w' := by
  have hb0 : Below w.heap.size w (w.alloc (.cells nd.cells.toArray 60)) := (Below.refl _ _).alloc (Nat.le_refl _) _
  have CN := lexName_calls nd.nm (w.alloc (.cells nd.cells.toArray 60)) hg.1
  have C1 := fun W (h : Below w.heap.size w W) => paramsMay_calls nd.ins nd.ia nd.ic nd.fl false hg.2.2.2.2.2.1 hg.2.1 W (rowIn_below hl.1 h)
  have C2 := fun W (h : Below w.heap.size w W) => paramsMay_calls nd.outs nd.oa nd.oc false nd.fl hg.2.2.2.2.2.2.1 hg.2.2.1 W (rowIn_below hl.2.1 h)
  have C3 := fun W (h : Below w.heap.size w W) => paramsMay_calls nd.vars nd.va nd.vc false false hg.2.2.2.2.2.2.2.1 hg.2.2.2.1 W (rowIn_below hl.2.2.1 h)
  have CQ : ∀ (k : Nat) (h : k < nd.eqs.length) (W W' : World), Below w.heap.size w W → Below W.heap.size W W' → Calls Tryz.prog 121 #[nd.eqs[k].val] W' fun x w' => x = .returned (.bool (eqB nd.eqs[k])) ∧ Below W'.heap.size W' w' := fun k h W W' hb hb' =>
    eqMay_calls _ (hg.2.2.2.2.2.2.2.2 _ (List.getElem_mem h)) W' (Eqn.lies_below (hl.2.2.2.2 _ (List.getElem_mem h)) (hb.trans (hb'.mono hb.size))) (ht.below (hb.trans (hb'.mono hb.size)))
  have HRow : Hid (rowIn Eqn.cells 8 w nd.qa nd.eqs) := hl.2.2.2.1
  have HB0 : Hid _ := hb0
  have HQ : Hid (ndB nd = (nameB nd.nm && (nd.ins.all (pmsB nd.fl false) && nd.outs.all (pmsB false nd.fl) && nd.vars.all (pmsB false false)) && nd.eqs.all eqB)) := rfl
  generalize ndB nd = qb at *
  generalize nameB nd.nm = q0 at *
  generalize nd.ins.all (pmsB nd.fl false) = q1 at *
  generalize nd.outs.all (pmsB false nd.fl) = q2 at *
  generalize nd.vars.all (pmsB false false) = q3 at *
  have hn : nd.eqs.length ≤ 1048576 := hg.2.2.2.2.1
  obtain ⟨fl, nm, pl, ia, ic, ins, oa, oc, outs, va, vc, vars, qa, qc, eqs⟩ := nd
  obtain ⟨n, hN⟩ : ∃ n, n = eqs.length := ⟨_, rfl⟩
  have HN : Hid (n = eqs.length) := hN
  simp only [Nd.val, Nd.cells, List.toArray] at *
  rw [← hN] at hn CN HB0 ⊢
  clear hN hg hl ht hb0
  obtain ⟨W0, hW0⟩ : ∃ W0 : World, W0 = w.alloc (.cells #[.bool fl, .string nm, .int .i64 pl, .slice ia ins.length ic, .slice oa outs.length oc, .slice va vars.length vc, .slice qa n qc] 60) := ⟨_, rfl⟩
  have HW0 : Hid (∀ W, Below (w.heap.size + 1) W0 W → ∀ j, j < 7 → W.cell? ⟨w.heap.size, j, none⟩ = (#[.bool fl, .string nm, .int .i64 pl, .slice ia ins.length ic, .slice oa outs.length oc, .slice va vars.length vc, .slice qa n qc] : Array Value)[j]?) := fun W h j hj => by
    rw [h.cell (p := ⟨w.heap.size, j, none⟩) (by show w.heap.size < w.heap.size + 1; omega), hW0, World.cell?_alloc_at _ _ _ _ rfl]
  have HS0 : Hid (W0.heap.size = w.heap.size + 1) := by rw [Hid, hW0]; simp
  have HBW : Hid (Below w.heap.size w W0) := by rw [hW0]; exact HB0.out
  have HEq : Hid _ := hW0
  cases q0
  · go_enter Tryz.func89, Tryz.ntmps89
    go_wp2_with fail
    refine CN.mono ?_
    rintro x w2 ⟨rfl, hb⟩
    have HB : Hid (Below w.heap.size w w2) := HB0.out.trans (hb.mono (by simp))
    clear hb CN C1 C2 C3 CQ
    go_wp2_with fail
    go_ret
    exact ⟨bool_ret (by rw [HQ.out]; rfl), HB.out⟩
  · clear hW0
    go_enter Tryz.func89, Tryz.ntmps89
    go_wp2_with fail
    refine CN.mono ?_
    rintro x w2 ⟨rfl, hb⟩
    rw [← HEq.out] at hb
    have HX2 : Hid (Below (w.heap.size + 1) W0 w2) := by have := HS0.out; rw [this] at hb; exact hb
    have HB2 : Hid (Below w.heap.size w w2) := HBW.out.trans (HX2.out.mono (by omega))
    have x0 := HW0.out w2 HX2.out 0 (by omega)
    have x3 := HW0.out w2 HX2.out 3 (by omega)
    have x4 := HW0.out w2 HX2.out 4 (by omega)
    have x5 := HW0.out w2 HX2.out 5 (by omega)
    have x6 := HW0.out w2 HX2.out 6 (by omega)
    simp at x0 x3 x4 x5 x6
    have C1' := C1 w2 HB2.out
    clear hb CN C1
    cases q1
    · go_wp2_with fail
      refine C1'.mono ?_
      rintro x w3 ⟨rfl, hb⟩
      have HB3 : Hid (Below w.heap.size w w3) := HB2.out.trans (hb.mono HB2.out.size)
      clear hb C1' C2 C3 CQ x0 x3 x4 x5 x6
      go_wp2_with fail
      go_ret
      exact ⟨bool_ret (by rw [HQ.out]; rfl), HB3.out⟩
    · go_wp2_with fail
      refine C1'.mono ?_
      rintro x w3 ⟨rfl, hb⟩
      have HB3 : Hid (Below w.heap.size w w3) := HB2.out.trans (hb.mono HB2.out.size)
      have HX3 : Hid (Below (w.heap.size + 1) W0 w3) := HX2.out.trans (hb.mono (by have h1 := HX2.out.size; have h2 := HS0.out; omega))
      clear x0 x3 x4 x5 x6
      have x0 := HW0.out w3 HX3.out 0 (by omega)
      have x4 := HW0.out w3 HX3.out 4 (by omega)
      have x5 := HW0.out w3 HX3.out 5 (by omega)
      have x6 := HW0.out w3 HX3.out 6 (by omega)
      simp at x0 x4 x5 x6
      have C2' := C2 w3 HB3.out
      clear hb C1' C2
      cases q2
      · go_wp2_with fail
        refine C2'.mono ?_
        rintro x w4 ⟨rfl, hb⟩
        have HB4 : Hid (Below w.heap.size w w4) := HB3.out.trans (hb.mono HB3.out.size)
        clear hb C2' C3 CQ x0 x4 x5 x6
        go_wp2_with fail
        go_ret
        exact ⟨bool_ret (by rw [HQ.out]; rfl), HB4.out⟩
      · go_wp2_with fail
        refine C2'.mono ?_
        rintro x w4 ⟨rfl, hb⟩
        have HB4 : Hid (Below w.heap.size w w4) := HB3.out.trans (hb.mono HB3.out.size)
        have HX4 : Hid (Below (w.heap.size + 1) W0 w4) := HX3.out.trans (hb.mono (by have h1 := HX3.out.size; have h2 := HS0.out; omega))
        clear x0 x4 x5 x6
        have x5 := HW0.out w4 HX4.out 5 (by omega)
        have x6 := HW0.out w4 HX4.out 6 (by omega)
        simp at x5 x6
        have C3' := C3 w4 HB4.out
        clear hb C2' C3
        cases q3
        · go_wp2_with fail
          refine C3'.mono ?_
          rintro x w5 ⟨rfl, hb⟩
          have HB5 : Hid (Below w.heap.size w w5) := HB4.out.trans (hb.mono HB4.out.size)
          clear hb C3' CQ x5 x6
          go_wp2_with fail
          go_ret
          exact ⟨bool_ret (by rw [HQ.out]; rfl), HB5.out⟩
        · go_wp2_with fail
          refine C3'.mono ?_
          rintro x w5 ⟨rfl, hb⟩
          have HB5 : Hid (Below w.heap.size w w5) := HB4.out.trans (hb.mono HB4.out.size)
          have HX5 : Hid (Below (w.heap.size + 1) W0 w5) := HX4.out.trans (hb.mono (by have h1 := HX4.out.size; have h2 := HS0.out; omega))
          clear x5 x6
          have x6 := HW0.out w5 HX5.out 6 (by omega)
          simp at x6
          have HQ2 : Hid (qb = eqs.all eqB) := by rw [Hid, HQ.out]; rfl
          have HCQ : Hid _ := CQ
          clear hb C3' HQ CQ
          go_wp2_with fail
          go_loopw [2, 32] (fun v i wr => ∃ k : Nat, k ≤ n ∧ v = .bool false ∧ i = .int .i64 k ∧ Hid (Below w.heap.size w wr) ∧ Hid ((eqs.take k).all eqB = true)) (fun _ i _ => n - (intOf i).toNat)
          case atStart => exact ⟨0, by omega, rfl, rfl, HB5, by simp [Hid]⟩
          case round =>
            obtain ⟨k, hk, rfl, rfl, HB, HT⟩ := hrel
            by_cases hlt : k < n
            · have hkl : k < eqs.length := by rw [← HN.out]; exact hlt
              obtain ⟨b, o, rfl, hbl, hrow⟩ := HRow.out (by intro h; rw [h] at hkl; simp at hkl)
              have hcr : ∀ j, j < 8 → wr.cell? ⟨b, o + k * 8 + j, none⟩ = eqs[k].cells[j]? := fun j hj => (HB.out.cell (p := ⟨b, o + k * 8 + j, none⟩) hbl).trans (hrow k hkl j hj)
              have CC := HCQ.out k hkl wr (wr.alloc (.cells eqs[k].cells.toArray 64)) HB.out ((Below.refl _ _).alloc (Nat.le_refl _) _)
              have HNx : Hid _ := take_all hkl HT.out
              have HFalse : Hid (eqB eqs[k] = false → eqs.all eqB = false) := fun h => all_false hkl h
              generalize eqB eqs[k] = qs at *
              generalize eqs[k] = y at *
              obtain ⟨na1, nc1, ns1, pq1, ⟨kd1, pl1, nm1, it1, dn1, a1, cap1, l1⟩⟩ := y
              have c0 : wr.cell? ⟨b, o + k * 8, none⟩ = some (.slice na1 ns1.length nc1) := hcr 0 (by omega)
              have c1 : wr.cell? ⟨b, o + k * 8 + 1, none⟩ = some (.int .i64 pq1) := hcr 1 (by omega)
              have c2 : wr.cell? ⟨b, o + k * 8 + 2, none⟩ = some (.int .u8 kd1) := hcr 2 (by omega)
              have c3 : wr.cell? ⟨b, o + k * 8 + 3, none⟩ = some (.int .i64 pl1) := hcr 3 (by omega)
              have c4 : wr.cell? ⟨b, o + k * 8 + 4, none⟩ = some (.string nm1) := hcr 4 (by omega)
              have c5 : wr.cell? ⟨b, o + k * 8 + 5, none⟩ = some (.int .i64 it1) := hcr 5 (by omega)
              have c6 : wr.cell? ⟨b, o + k * 8 + 6, none⟩ = some (.int .i64 dn1) := hcr 6 (by omega)
              have c7 : wr.cell? ⟨b, o + k * 8 + 7, none⟩ = some (.slice a1 l1.length cap1) := hcr 7 (by omega)
              simp only [Eqn.val, Eqn.cells, Ex.cells, List.toArray] at CC
              clear hcr hrow
              go_wp2_with fail
              refine CC.mono ?_
              rintro x w6 ⟨rfl, hb⟩
              have HB6 : Hid (Below w.heap.size w w6) := HB.out.trans (((Below.refl wr.heap.size wr).alloc (Nat.le_refl _) _).trans (hb.mono (by simp)) |>.mono HB.out.size)
              clear hb CC c0 c1 c2 c3 c4 c5 c6 c7
              cases qs
              · go_wp2_with fail
                go_ret
                exact ⟨bool_ret (by rw [HQ2.out, HFalse.out (by first | rfl | trivial)]), HB6.out⟩
              · go_wp2_with fail
                go_roundw
                case rel => exact ⟨k + 1, by omega, rfl, by go_num, HB6, HNx⟩
                case measure => simp [intOf]; omega
            · obtain rfl : k = n := by omega
              have HAll : Hid _ := all_true HN.out HT.out
              go_wp2_with fail
              go_ret
              exact ⟨bool_ret (by rw [HQ2.out, HAll.out]), HB.out⟩
end Go.Proofs.YthbgnpkgglbhjaaGreatDoor
