/- The program's SameProgram. -/
import Derived.Test.YthbjagmlcemefaaDoorTreeLike
import Derived.Test.YthbjagmlcemefaaDoorTreeSame
import Derived.Test.YthbjagmlcemefaaDoorTreeMay
namespace Go.Proofs.YthbjagmlcemefaaDoor
open Go.RowKit
open Ex.size Ex.depth Ex.lies Ex.bulk Ex.good Ex.same
attribute [local go_sem] later_size later_cell later_frozen later_setCell later_drew later_drewN later_tape drewN_setCell drewN_alloc drewN_later later_later lt_more lt_more1 lt_more2 lt_more3 lt_more4 lk0_0_1 lk1_0_1 lk2_0_1 lk0_0_2 lk1_0_2 lk2_0_2 lk0_1_2 lk0_0_3 lk1_0_3 lk2_0_3 lk0_1_3 lk0_2_3 lk0_0_4 lk1_0_4 lk2_0_4 lk0_1_4 lk0_2_4 lk0_3_4 lk0_0_5 lk1_0_5 lk2_0_5 lk0_1_5 lk0_2_5 lk0_3_5 lk0_4_5 lk0_0_6 lk1_0_6 lk2_0_6 lk0_1_6 lk0_2_6 lk0_3_6 lk0_4_6 lk0_5_6 lk0_0_7 lk1_0_7 lk2_0_7 lk0_1_7 lk0_2_7 lk0_3_7 lk0_4_7 lk0_5_7 lk0_6_7
def textEq (x y : ByteArray) : Bool := x.toList == y.toList
def pmSame (p q : Pm) : Bool := textEq p.nm q.nm && (p.ty == q.ty) && (p.rt == q.rt) && (p.pd == q.pd) && (p.st == q.st) && (p.du == q.du)
def eqSame (p q : Eqn) : Bool := likeB textEq p.ns q.ns && p.e.same q.e
set_option maxHeartbeats 800000 in
theorem sameName_calls (x y : ByteArray) (w : World) : Calls Tryd.prog 104 #[.string x, .string y] w fun r w' => r = .returned (.bool (textEq x y)) ∧ Below w.heap.size w w' := by
  have HT : Hid (textEq x y = (x.toList == y.toList)) := rfl
  go_enter Tryd.func104, Tryd.ntmps104
  go_wp2
  all_goals go_ret
  all_goals exact ⟨same_ret (by rw [HT.out]), Below.refl _ _⟩
set_option maxRecDepth 100000 in
set_option maxHeartbeats 1600000 in
theorem sameParam_calls (p q : Pm) (w : World) : Calls Tryd.prog 67 #[p.val, q.val] w fun r w' => r = .returned (.bool (pmSame p q)) ∧ Below w.heap.size w w' := by
  have HT : Hid (pmSame p q = ((p.nm.toList == q.nm.toList) && (p.ty == q.ty) && (p.rt == q.rt) && (p.pd == q.pd) && (p.st == q.st) && (p.du == q.du))) := rfl
  generalize pmSame p q = r at *
  obtain ⟨nm, ty, pl, rt, pd, st, du⟩ := p
  obtain ⟨nm', ty', pl', rt', pd', st', du'⟩ := q
  simp only [Pm.val, Pm.cells, List.toArray] at *
  go_enter Tryd.func67, Tryd.ntmps67
  go_wp2
  all_goals go_ret
  all_goals exact ⟨same_ret (by rw [HT.out]; simp_all), ((Below.refl _ _).alloc (Nat.le_refl _) _).alloc (by simp) _⟩
set_option maxRecDepth 100000 in
set_option maxHeartbeats 3200000 in
theorem sameEq_calls (p q : Eqn) (hp : p.good) (hq : q.good) (w : World) (hlp : p.lies w) (hlq : q.lies w) : Calls Tryd.prog 69 #[p.val, q.val] w fun r w' => r = .returned (.bool (eqSame p q)) ∧ Below w.heap.size w w' := by
  obtain ⟨W0, hW0⟩ : ∃ W0 : World, W0 = (w.alloc (.cells p.cells.toArray 36)).alloc (.cells q.cells.toArray 36) := ⟨_, rfl⟩
  have hb0 : Below w.heap.size w W0 := by rw [hW0]; exact ((Below.refl _ _).alloc (Nat.le_refl _) _).alloc (by simp) _
  have hs0 : W0.heap.size = w.heap.size + 2 := by rw [hW0]; simp
  have hxp : ∀ j, j < 8 → W0.cell? ⟨w.heap.size, j, none⟩ = p.cells[j]? := fun j hj => by rw [hW0, World.cell?_alloc_past _ _ _ (by simp)]; exact cell_alloc_eq rfl
  have hxq : ∀ j, j < 8 → W0.cell? ⟨w.heap.size + 1, j, none⟩ = q.cells[j]? := fun j hj => by rw [hW0]; exact cell_alloc_eq (by simp)
  have CT := alikeText_pure 104 (enters_of Tryd.func104 (by kernel_rfl) rfl) textEq p.ns q.ns p.na q.na p.nc q.nc W0 (rowIn_below hlp.1 hb0) (rowIn_below hlq.1 hb0) hp.2.1 hq.2.1 (fun x _ y _ w' _ => sameName_calls x y w')
  have HCS : Hid (∀ w', Below W0.heap.size W0 w' → Calls Tryd.prog 16 #[p.e.val, q.e.val] w' fun r w'' => r = .returned (.bool (p.e.same q.e)) ∧ Below w'.heap.size w' w'') := fun w' h => same_prog p.e q.e hp.2.2.2 hq.2.2.2 w' (lies_below (hb0.trans (h.mono hb0.size)) _ hlp.2) (lies_below (hb0.trans (h.mono hb0.size)) _ hlq.2)
  have HE : Hid (eqSame p q = (likeB textEq p.ns q.ns && p.e.same q.e)) := rfl
  generalize eqSame p q = r at *
  generalize likeB textEq p.ns q.ns = r1 at *
  generalize p.e.same q.e = r2 at *
  obtain ⟨na, nc, ns, pq, ⟨kd, pl, nm, it, dn, a, cap, l⟩⟩ := p
  obtain ⟨na', nc', ns', pq', ⟨kd', pl', nm', it', dn', a', cap', l'⟩⟩ := q
  have HC : Hid (∀ w', Below W0.heap.size W0 w' → (∀ j, j < 8 → w'.cell? ⟨w.heap.size, j, none⟩ = (Eqn.mk na nc ns pq ⟨kd, pl, nm, it, dn, a, cap, l⟩).cells[j]?) ∧ ∀ j, j < 8 → w'.cell? ⟨w.heap.size + 1, j, none⟩ = (Eqn.mk na' nc' ns' pq' ⟨kd', pl', nm', it', dn', a', cap', l'⟩).cells[j]?) := fun w' h => ⟨fun j hj => (h.cell (p := ⟨w.heap.size, j, none⟩) (by show w.heap.size < W0.heap.size; omega)).trans (hxp j hj), fun j hj => (h.cell (p := ⟨w.heap.size + 1, j, none⟩) (by show w.heap.size + 1 < W0.heap.size; omega)).trans (hxq j hj)⟩
  simp only [Eqn.val, Eqn.cells, Ex.val, Ex.cells, List.toArray] at *
  have HB0 : Hid _ := hb0
  have HS0 : Hid _ := hs0
  have HW0 : Hid _ := hW0
  clear hb0 hs0 hW0 hxp hxq hp hq hlp hlq
  go_enter Tryd.func69, Tryd.ntmps69
  go_wp2_with fail
  rw [← HW0.out]
  refine CT.mono ?_
  rintro x w2 ⟨rfl, hb2⟩
  have HB2 : Hid (Below W0.heap.size W0 w2) := hb2
  obtain ⟨h1, h2⟩ := HC.out w2 hb2
  have x2 := h1 2 (by omega)
  have x3 := h1 3 (by omega)
  have x4 := h1 4 (by omega)
  have x5 := h1 5 (by omega)
  have x6 := h1 6 (by omega)
  have x7 := h1 7 (by omega)
  have y2 := h2 2 (by omega)
  have y3 := h2 3 (by omega)
  have y4 := h2 4 (by omega)
  have y5 := h2 5 (by omega)
  have y6 := h2 6 (by omega)
  have y7 := h2 7 (by omega)
  simp at x2 x3 x4 x5 x6 x7 y2 y3 y4 y5 y6 y7
  have C2 := HCS.out w2 hb2
  clear CT hb2 h1 h2 HW0
  cases r1
  · go_wp2_with fail
    go_ret
    exact ⟨same_ret (by rw [HE.out]; rfl), HB0.out.trans (HB2.out.mono (by have := HS0.out; omega))⟩
  · go_wp2_with fail
    refine C2.mono ?_
    rintro x w3 ⟨rfl, hb3⟩
    have HB3 : Hid (Below w.heap.size w w3) := HB0.out.trans ((HB2.out.trans (hb3.mono HB2.out.size)).mono (by have := HS0.out; omega))
    clear hb3 C2 x2 x3 x4 x5 x6 x7 y2 y3 y4 y5 y6 y7
    go_wp2_with fail
    go_ret
    exact ⟨same_ret (by rw [HE.out]; rfl), HB3.out⟩
def ndSame (m n : Nd) : Bool := ((m.fl == n.fl) && textEq m.nm n.nm) && (likeB pmSame m.ins n.ins && (likeB pmSame m.outs n.outs && (likeB pmSame m.vars n.vars && likeB eqSame m.eqs n.eqs)))
structure LikeIs (W : World) (f : Nat) (args : Array Value) (q : Bool) : Prop where
  out : ∀ w', Hid (Below W.heap.size W w') → Calls Tryd.prog f args w' fun r w'' => r = .returned (.bool q) ∧ Below w'.heap.size w' w''
set_option maxRecDepth 100000 in
set_option maxHeartbeats 6400000 in
theorem sameNode_calls (m n : Nd) (hm : m.good) (hn : n.good) (w : World) (hlm : m.lies w) (hln : n.lies w) : Calls Tryd.prog 40 #[m.val, n.val] w fun r w' => r = .returned (.bool (ndSame m n)) ∧ Below w.heap.size w w' := by
  obtain ⟨W0, hW0⟩ : ∃ W0 : World, W0 = (w.alloc (.cells m.cells.toArray 29)).alloc (.cells n.cells.toArray 29) := ⟨_, rfl⟩
  have hb0 : Below w.heap.size w W0 := by rw [hW0]; exact ((Below.refl _ _).alloc (Nat.le_refl _) _).alloc (by simp) _
  have hs0 : W0.heap.size = w.heap.size + 2 := by rw [hW0]; simp
  have hxm : ∀ j, j < 7 → W0.cell? ⟨w.heap.size, j, none⟩ = m.cells[j]? := fun j hj => by rw [hW0, World.cell?_alloc_past _ _ _ (by simp)]; exact cell_alloc_eq rfl
  have hxn : ∀ j, j < 7 → W0.cell? ⟨w.heap.size + 1, j, none⟩ = n.cells[j]? := fun j hj => by rw [hW0]; exact cell_alloc_eq (by simp)
  have up : ∀ {w'}, Hid (Below W0.heap.size W0 w') → Below w.heap.size w w' := fun h => hb0.trans (h.out.mono hb0.size)
  have entP := enters_of Tryd.func67 (by kernel_rfl) rfl
  have P1 : LikeIs W0 66 #[.slice m.ia m.ins.length m.ic, .slice n.ia n.ins.length n.ic, .func (.func 67) #[] #[]] (likeB pmSame m.ins n.ins) := ⟨fun w' h => alikeParam_pure _ entP pmSame m.ins n.ins m.ia n.ia m.ic n.ic w' (rowIn_below hlm.1 (up h)) (rowIn_below hln.1 (up h)) hm.2.1 hn.2.1 (fun x _ y _ w' _ => sameParam_calls x y w')⟩
  have P2 : LikeIs W0 66 #[.slice m.oa m.outs.length m.oc, .slice n.oa n.outs.length n.oc, .func (.func 67) #[] #[]] (likeB pmSame m.outs n.outs) := ⟨fun w' h => alikeParam_pure _ entP pmSame m.outs n.outs m.oa n.oa m.oc n.oc w' (rowIn_below hlm.2.1 (up h)) (rowIn_below hln.2.1 (up h)) hm.2.2.1 hn.2.2.1 (fun x _ y _ w' _ => sameParam_calls x y w')⟩
  have P3 : LikeIs W0 66 #[.slice m.va m.vars.length m.vc, .slice n.va n.vars.length n.vc, .func (.func 67) #[] #[]] (likeB pmSame m.vars n.vars) := ⟨fun w' h => alikeParam_pure _ entP pmSame m.vars n.vars m.va n.va m.vc n.vc w' (rowIn_below hlm.2.2.1 (up h)) (rowIn_below hln.2.2.1 (up h)) hm.2.2.2.1 hn.2.2.2.1 (fun x _ y _ w' _ => sameParam_calls x y w')⟩
  have P4 : LikeIs W0 68 #[.slice m.qa m.eqs.length m.qc, .slice n.qa n.eqs.length n.qc, .func (.func 69) #[] #[]] (likeB eqSame m.eqs n.eqs) := ⟨fun w' h => alikeEq_pure _ (enters_of Tryd.func69 (by kernel_rfl) rfl) eqSame m.eqs n.eqs m.qa n.qa m.qc n.qc w' (rowIn_below hlm.2.2.2.1 (up h)) (rowIn_below hln.2.2.2.1 (up h)) hm.2.2.2.2.1 hn.2.2.2.2.1 (fun x hx y hy w'' hb => sameEq_calls x y (hm.2.2.2.2.2.2.2.2 x hx) (hn.2.2.2.2.2.2.2.2 y hy) w'' (Eqn.lies_below (hlm.2.2.2.2 x hx) ((up h).trans (hb.mono (up h).size))) (Eqn.lies_below (hln.2.2.2.2 y hy) ((up h).trans (hb.mono (up h).size))))⟩
  have HE : Hid (ndSame m n = (((m.fl == n.fl) && (m.nm.toList == n.nm.toList)) && (likeB pmSame m.ins n.ins && (likeB pmSame m.outs n.outs && (likeB pmSame m.vars n.vars && likeB eqSame m.eqs n.eqs))))) := rfl
  generalize ndSame m n = r at *
  generalize likeB pmSame m.ins n.ins = r1 at *
  generalize likeB pmSame m.outs n.outs = r2 at *
  generalize likeB pmSame m.vars n.vars = r3 at *
  generalize likeB eqSame m.eqs n.eqs = r4 at *
  obtain ⟨fl, nm, pl, ia, ic, ins, oa, oc, outs, va, vc, vars, qa, qc, eqs⟩ := m
  obtain ⟨fl', nm', pl', ia', ic', ins', oa', oc', outs', va', vc', vars', qa', qc', eqs'⟩ := n
  simp only at P1 P2 P3 P4 HE
  have HC : Hid (∀ w', Hid (Below W0.heap.size W0 w') → (w'.cell? ⟨w.heap.size, 3, none⟩ = some (.slice ia ins.length ic) ∧ w'.cell? ⟨w.heap.size, 4, none⟩ = some (.slice oa outs.length oc) ∧ w'.cell? ⟨w.heap.size, 5, none⟩ = some (.slice va vars.length vc) ∧ w'.cell? ⟨w.heap.size, 6, none⟩ = some (.slice qa eqs.length qc)) ∧ w'.cell? ⟨w.heap.size + 1, 3, none⟩ = some (.slice ia' ins'.length ic') ∧ w'.cell? ⟨w.heap.size + 1, 4, none⟩ = some (.slice oa' outs'.length oc') ∧ w'.cell? ⟨w.heap.size + 1, 5, none⟩ = some (.slice va' vars'.length vc') ∧ w'.cell? ⟨w.heap.size + 1, 6, none⟩ = some (.slice qa' eqs'.length qc')) := fun w' h => by
    have hA : ∀ j, j < 7 → w'.cell? ⟨w.heap.size, j, none⟩ = _ := fun j hj => (h.out.cell (p := ⟨w.heap.size, j, none⟩) (by show w.heap.size < W0.heap.size; omega)).trans (hxm j hj)
    have hB : ∀ j, j < 7 → w'.cell? ⟨w.heap.size + 1, j, none⟩ = _ := fun j hj => (h.out.cell (p := ⟨w.heap.size + 1, j, none⟩) (by show w.heap.size + 1 < W0.heap.size; omega)).trans (hxn j hj)
    exact ⟨⟨hA 3 (by omega), hA 4 (by omega), hA 5 (by omega), hA 6 (by omega)⟩, hB 3 (by omega), hB 4 (by omega), hB 5 (by omega), hB 6 (by omega)⟩
  have bl : Hid (∀ (w' w'' : World), Hid (Below W0.heap.size W0 w') → Below w'.heap.size w' w'' → Hid (Below W0.heap.size W0 w'')) := fun w' w'' h1 h2 => h1.out.trans (h2.mono h1.out.size)
  have HEnd : Hid (∀ w', Hid (Below W0.heap.size W0 w') → Below w.heap.size w w') := fun w' h => hb0.trans (h.out.mono hb0.size)
  have K0 : Hid (Below W0.heap.size W0 W0) := Below.refl _ _
  simp only [Nd.val, Nd.cells, List.toArray] at *
  have HW0 : Hid _ := hW0
  clear hb0 hs0 hW0 hxm hxn hm hn hlm hln up entP
  by_cases hf : (fl == fl') = true ∧ (nm.toList == nm'.toList) = true
  · obtain ⟨hf1, hf2⟩ := hf
    have HE1 : Hid (r = (r1 && (r2 && (r3 && r4)))) := by rw [Hid, HE.out, hf1, hf2]; rfl
    clear HE
    go_enter Tryd.func40, Tryd.ntmps40
    go_wp2_with fail
    rw [← HW0.out]
    refine (P1.out _ K0).mono ?_
    rintro x w1 ⟨rfl, hb1⟩
    have K1 := bl.out _ w1 K0 hb1
    obtain ⟨⟨x3, x4, x5, x6⟩, y3, y4, y5, y6⟩ := HC.out w1 K1
    clear hb1 HW0
    cases r1
    · go_wp2_with fail
      go_ret
      exact ⟨same_ret (by rw [HE1.out]; rfl), HEnd.out _ K1⟩
    · go_wp2_with fail
      refine (P2.out _ K1).mono ?_
      rintro x w2 ⟨rfl, hb2⟩
      have K2 := bl.out _ w2 K1 hb2
      clear x3 x4 x5 x6 y3 y4 y5 y6 hb2
      obtain ⟨⟨x3, x4, x5, x6⟩, y3, y4, y5, y6⟩ := HC.out w2 K2
      cases r2
      · go_wp2_with fail
        go_ret
        exact ⟨same_ret (by rw [HE1.out]; rfl), HEnd.out _ K2⟩
      · go_wp2_with fail
        refine (P3.out _ K2).mono ?_
        rintro x w3 ⟨rfl, hb3⟩
        have K3 := bl.out _ w3 K2 hb3
        clear x3 x4 x5 x6 y3 y4 y5 y6 hb3
        obtain ⟨⟨x3, x4, x5, x6⟩, y3, y4, y5, y6⟩ := HC.out w3 K3
        cases r3
        · go_wp2_with fail
          go_ret
          exact ⟨same_ret (by rw [HE1.out]; rfl), HEnd.out _ K3⟩
        · go_wp2_with fail
          refine (P4.out _ K3).mono ?_
          rintro x w4 ⟨rfl, hb4⟩
          have K4 := bl.out _ w4 K3 hb4
          clear x3 x4 x5 x6 y3 y4 y5 y6 hb4
          go_wp2_with fail
          go_ret
          exact ⟨same_ret (by rw [HE1.out]; rfl), HEnd.out _ K4⟩
  · have HE1 : Hid (r = false) := by
      rw [Hid, HE.out]
      cases h1 : (fl == fl') <;> cases h2 : (nm.toList == nm'.toList) <;> simp_all
    go_enter Tryd.func40, Tryd.ntmps40
    go_wp2_with fail
    all_goals first
      | (exfalso; simp_all; done)
      | (go_ret; exact ⟨same_ret HE1.out.symm, ((Below.refl _ _).alloc (Nat.le_refl _) _).alloc (by simp) _⟩)
set_option maxRecDepth 100000 in
set_option maxHeartbeats 3200000 in
theorem sameProgram_prog (l l' : List Nd) (a a' : Option Addr) (cap cap' : Nat) (hg : Goods l) (hg' : Goods l') (w : World) (hl : Lie w a l) (hl' : Lie w a' l') : Calls Tryd.prog 14 #[.agg #[.slice a l.length cap], .agg #[.slice a' l'.length cap']] w fun r w' => r = .returned (.bool (likeB ndSame l l')) ∧ Below w.heap.size w w' := by
  obtain ⟨W0, hW0⟩ : ∃ W0 : World, W0 = (w.alloc (.cells #[.slice a l.length cap] 25)).alloc (.cells #[.slice a' l'.length cap'] 25) := ⟨_, rfl⟩
  have hb0 : Below w.heap.size w W0 := by rw [hW0]; exact ((Below.refl _ _).alloc (Nat.le_refl _) _).alloc (by simp) _
  have C := alikeNode_pure 40 (enters_of Tryd.func40 (by kernel_rfl) rfl) ndSame l l' a a' cap cap' W0 (rowIn_below hl.1 hb0) (rowIn_below hl'.1 hb0) hg.2.1 hg'.2.1 (fun x hx y hy w' hb => sameNode_calls x y (hg.1 x hx) (hg'.1 y hy) w' (Nd.lies_below (hl.2 x hx) (hb0.trans (hb.mono hb0.size))) (Nd.lies_below (hl'.2 y hy) (hb0.trans (hb.mono hb0.size))))
  have HB0 : Hid _ := hb0
  have HW0 : Hid _ := hW0
  generalize likeB ndSame l l' = r at *
  generalize l.length = n at *
  generalize l'.length = n' at *
  clear hb0 hW0 hl hl' hg hg'
  go_enter Tryd.func14, Tryd.ntmps14
  go_wp2_with fail
  rw [← HW0.out]
  refine C.mono ?_
  rintro x w2 ⟨rfl, hb2⟩
  have HB2 : Hid (Below w.heap.size w w2) := HB0.out.trans (hb2.mono HB0.out.size)
  clear C hb2
  go_wp2_with fail
  go_ret
  exact ⟨rfl, HB2.out⟩
end Go.Proofs.YthbjagmlcemefaaDoor
