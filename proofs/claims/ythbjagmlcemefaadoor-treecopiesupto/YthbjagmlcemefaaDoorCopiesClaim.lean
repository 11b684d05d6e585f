/- PROVED: TreeCopies, for every program whose data are of bulk at most 1048576: the call returns true, the program is as it was; the table argCount as the program's text lays it. -/
import Derived.Test.YthbjagmlcemefaaDoorCopyAll
import Derived.Test.YthbjagmlcemefaaDoorRefSameProg
import Derived.Test.YthbjagmlcemefaaDoorTreeAlive
import Derived.Test.YthbjagmlcemefaaDoorTreeCalls
import Derived.Test.YthbjagmlcemefaaDoorTreeOpen
import Derived.Test.YthbjagmlcemefaaDoorTreeKit
/- The statement TreeCopies: its walk. -/
namespace Go.Proofs.YthbjagmlcemefaaDoor
open Go.RowKit
open Ex.size Ex.depth Ex.lies Ex.bulk Ex.good Ex.like Ex.inR Ex.skel
attribute [local go_sem] later_size later_cell later_frozen later_setCell later_drew later_drewN later_tape drewN_setCell drewN_alloc drewN_later later_later lt_more lt_more1 lt_more2 lt_more3 lt_more4 lk0_0_1 lk1_0_1 lk2_0_1 lk0_0_2 lk1_0_2 lk2_0_2 lk0_1_2 lk0_0_3 lk1_0_3 lk2_0_3 lk0_1_3 lk0_2_3 lk0_0_4 lk1_0_4 lk2_0_4 lk0_1_4 lk0_2_4 lk0_3_4 lk0_0_5 lk1_0_5 lk2_0_5 lk0_1_5 lk0_2_5 lk0_3_5 lk0_4_5 lk0_0_6 lk1_0_6 lk2_0_6 lk0_1_6 lk0_2_6 lk0_3_6 lk0_4_6 lk0_5_6 lk0_0_7 lk1_0_7 lk2_0_7 lk0_1_7 lk0_2_7 lk0_3_7 lk0_4_7 lk0_5_7 lk0_6_7
set_option maxRecDepth 100000 in
set_option maxHeartbeats 12800000 in
theorem copies_walk (l : List Nd) (a : Option Addr) (cap : Nat) (hg : Goods l) (w : World) (hl : Lie w a l) (ht : HasTab w) : Calls Tryd.prog 5 #[.agg #[.slice a l.length cap]] w fun x w' => x = .returned (.bool true) ∧ Below w.heap.size w w' := by
  obtain ⟨n, hN⟩ : ∃ n, n = l.length := ⟨_, rfl⟩
  have hn : n ≤ 1048576 := by rw [hN]; exact hg.2.1
  have HN : Hid (n = l.length) := hN
  obtain ⟨W0, hW0⟩ : ∃ W0 : World, W0 = w.alloc (.cells #[.slice a n cap] 25) := ⟨_, rfl⟩
  have hs0 : W0.heap.size = w.heap.size + 1 := by rw [hW0]; simp
  have hb0 : Below w.heap.size w W0 := by rw [hW0]; exact (Below.refl _ _).alloc (Nat.le_refl _) _
  have hx0 : W0.cell? ⟨w.heap.size, 0, none⟩ = some (.slice a n cap) := by rw [hW0]; simp
  have HBox : Hid (∀ W, Hid (Below W0.heap.size W0 W) → W.cell? ⟨w.heap.size, 0, none⟩ = some (.slice a n cap) ∧ w.heap.size < W.heap.size) := fun W h => ⟨(h.out.cell (p := ⟨w.heap.size, 0, none⟩) (by show w.heap.size < _; omega)).trans hx0, by have := h.out.size; omega⟩
  have CL := large_calls l a cap hg W0 (hl.below hb0)
  rw [← hN] at CL ⊢
  have CP : Hid (∀ W, Below w.heap.size w W → Calls Tryd.prog 18 #[.agg #[.slice a n cap]] W fun x w' => ∃ a' c' ys, x = .returned (.agg #[.slice a' n c']) ∧ RowOf Nd.cells 7 NdCp W.heap.size w'.heap.size w' a' l ys ∧ Below W.heap.size W w') := fun W hW => by rw [hN]; exact copyProgram_calls l a cap W (hl.below hW) hg
  have CA : Hid (∀ W, Below w.heap.size w W → Calls Tryd.prog 11 #[] W fun x w' => x = .returned (.bool true) ∧ Below W.heap.size W w') := fun W hW => alive_calls W (ht.below hW)
  have CS : Hid (∀ W a' c' ys, Below w.heap.size w W → ys.length = n → Goods ys → Lie W a' ys → likeB ndSame l ys = true → Calls Tryd.prog 14 #[.agg #[.slice a n cap], .agg #[.slice a' n c']] W fun r w' => r = .returned (.bool true) ∧ Below W.heap.size W w') := fun W a' c' ys hW hy h1 h2 h3 => by
    have := sameProgram_prog l ys a a' cap c' hg h1 W (hl.below hW) h2
    rw [hy, ← hN, h3] at this
    exact this
  have CR : Hid (∀ W a' c' ys, Below w.heap.size w W → ys.length = n → Goods ys → Lie W a' ys → likeB ndSame l ys = true → Calls Tryd.prog 15 #[.agg #[.slice a n cap], .agg #[.slice a' n c']] W fun r w' => r = .returned (.bool true) ∧ Below W.heap.size W w') := fun W a' c' ys hW hy h1 h2 h3 => by
    have := sameProgram_ref l ys a a' cap c' hg h1 W (hl.below hW) h2
    rw [hy, ← hN, h3] at this
    exact this
  have HG : Hid (Goods l) := hg
  have HL : Hid (Lie w a l) := hl
  have HB0 : Hid (Below w.heap.size w W0) := hb0
  have HS0 : Hid (W0.heap.size = w.heap.size + 1) := hs0
  have HW0 : Hid (_ = W0) := hW0.symm
  have toW : Hid (∀ W, Hid (Below W0.heap.size W0 W) → Below w.heap.size w W) := fun W h => hb0.trans (h.out.mono (by omega))
  clear hN hW0 hs0 hb0 hx0 hg hl ht
  go_enter Tryd.func5, Tryd.ntmps5
  go_wp2_with fail
  rw [HW0.out]
  refine CL.mono ?_
  rintro x w1 ⟨⟨big, rfl⟩, hb1⟩
  have K1 : Hid (Below W0.heap.size W0 w1) := hb1
  obtain ⟨y0, yl⟩ := HBox.out w1 K1
  clear CL hb1
  cases big
  · have C2 := CP.out w1 (toW.out _ K1)
    go_wp2_with fail
    refine C2.mono ?_
    rintro x w2 ⟨a', c', ys, rfl, hr, hb2⟩
    obtain ⟨pg, pl, pe⟩ := prog_copy hr HG.out
    have hlen : ys.length = n := by rw [hr.len]; exact HN.out.symm
    have K2 : Hid (Below W0.heap.size W0 w2) := K1.out.trans (hb2.mono K1.out.size)
    obtain ⟨W3, hW3⟩ : ∃ W3 : World, W3 = w2.alloc (.cells #[.slice a' n c'] 25) := ⟨_, rfl⟩
    have hb3 : Below w2.heap.size w2 W3 := by rw [hW3]; exact (Below.refl _ _).alloc (Nat.le_refl _) _
    have hs3 : W3.heap.size = w2.heap.size + 1 := by rw [hW3]; simp
    have hq3 : W3.cell? ⟨w2.heap.size, 0, none⟩ = some (.slice a' n c') := by rw [hW3]; simp
    have K3 : Hid (Below W0.heap.size W0 W3) := K2.out.trans (hb3.mono K2.out.size)
    have pl3 := pl.below hb3
    have HR : Hid (RowOf Nd.cells 7 NdCp w1.heap.size w2.heap.size W3 a' l ys) := hr.keep ndCp_keepP (fun x _ h2 => hb3.block x h2) hb3.size
    have D1 := CS.out W3 a' c' ys (toW.out _ K3) hlen pg pl3 pe
    have D2 : Hid (∀ W, Hid (Below W3.heap.size W3 W) → Calls Tryd.prog 15 #[.agg #[.slice a n cap], .agg #[.slice a' n c']] W fun r w' => r = .returned (.bool true) ∧ Below W.heap.size W w') := fun W hW => CR.out W a' c' ys (toW.out _ (K3.out.trans (hW.out.mono K3.out.size))) hlen pg (pl3.below hW.out) pe
    obtain ⟨z0, zl⟩ := HBox.out W3 K3
    have zl3 : w2.heap.size < W3.heap.size := by omega
    have HW3 : Hid (_ = W3) := hW3.symm
    have HB3 : Hid _ := hb3
    have HLe : Hid (w1.heap.size ≤ w2.heap.size) := hb2.size
    have HS3 : Hid _ := hs3
    have HLen : Hid _ := hlen
    have HQ3 : Hid (∀ W, Hid (Below W3.heap.size W3 W) → W.cell? ⟨w2.heap.size, 0, none⟩ = some (.slice a' n c') ∧ W.cell? ⟨w.heap.size, 0, none⟩ = some (.slice a n cap) ∧ w2.heap.size < W.heap.size ∧ w.heap.size < W.heap.size) := fun W h => ⟨(h.out.cell (p := ⟨w2.heap.size, 0, none⟩) zl3).trans hq3, (h.out.cell (p := ⟨w.heap.size, 0, none⟩) zl).trans z0, Nat.lt_of_lt_of_le zl3 h.out.size, Nat.lt_of_lt_of_le zl h.out.size⟩
    clear C2 hr hb2 pg pl pe hb3 hs3 hW3 pl3 hlen y0 yl
    obtain ⟨y2, yl2⟩ := HBox.out w2 K2
    go_wp2_with fail
    rw [HW3.out]
    refine D1.mono ?_
    rintro x w4 ⟨rfl, hb4⟩
    have K4 : Hid (Below W3.heap.size W3 w4) := hb4
    obtain ⟨v0, v1, v2, v3⟩ := HQ3.out w4 K4
    have D3 := D2.out w4 K4
    clear D1 hb4 z0 zl hq3 zl3 y2 yl2
    go_wp2_with fail
    refine D3.mono ?_
    rintro x w5 ⟨rfl, hb5⟩
    have K5 : Hid (Below W3.heap.size W3 w5) := K4.out.trans (hb5.mono K4.out.size)
    obtain ⟨cp0, cq0, lp0, lq0⟩ := HQ3.out w5 K5
    clear D2 D3 hb5 v0 v1 v2 v3
    obtain ⟨G, T, hZ⟩ := zones_of HR.out (by have := HS3.out; have := K2.out.size; exact Nat.le_trans (Nat.le_refl _) HLe.out)
    have hG1 : w1.heap.size ≤ G := hZ.low
    have hw1 : w.heap.size < w1.heap.size := (HBox.out w1 K1).2
    have HZ : Hid _ := hZ
    have HW3s : Hid (Below w.heap.size w W3) := toW.out _ K3
    have HI0 : Hid (CIn w W3 (zN G T 0) w5) := ⟨HW3s.out.trans (K5.out.mono HW3s.out.size), K5.out.size, fun b h1 _ => K5.out.block b h1⟩
    have HCel : Hid (∀ (Z : Nat → Prop) wr, CIn w W3 Z wr → Z w.heap.size → Z w2.heap.size → (wr.cell? ⟨w.heap.size, 0, none⟩ = some (.slice a n cap) ∧ wr.cell? ⟨w2.heap.size, 0, none⟩ = some (.slice a' n c') ∧ w.heap.size < wr.heap.size ∧ w2.heap.size < wr.heap.size)) := fun Z wr h k1 k2 => by
      obtain ⟨e1, e2, e3, e4⟩ := HQ3.out W3 (Below.refl _ _)
      have hs := h.size
      exact ⟨(h.cell e4 k1).trans e2, (h.cell e3 k2).trans e1, by omega, by omega⟩
    clear hZ
    go_wp2_with fail
    go_loopw [4] (fun i wr => ∃ i0 : Nat, i0 ≤ n ∧ i = .int .i64 i0 ∧ Hid (CIn w W3 (zN G T i0) wr)) (fun i _ => n - (intOf i).toNat)
    case atStart => exact ⟨0, by omega, rfl, HI0⟩
    case round =>
      clear cp0 cq0 lp0 lq0 HI0
      obtain ⟨i, hin, rfl, HC⟩ := hrel
      have hzi := HZ.out.to i (by rw [HLen.out]; exact hin)
      obtain ⟨cp0, cq0, lp0, lq0⟩ := HCel.out _ wr HC.out (.inl (by omega)) (hzi.2.elim .inl .inr)
      by_cases hlt : i < n
      · have hil : i < l.length := by rw [← HN.out]; exact hlt
        have hiy : i < ys.length := by rw [HLen.out]; exact hlt
        obtain ⟨b0, o0, rfl, hbl, hrow⟩ := HL.out.1 (by intro h; rw [h] at hil; simp at hil)
        have hyne : ys ≠ [] := by intro h; rw [h] at hiy; simp at hiy
        obtain ⟨rfl, hGhi, hThi, hrowq⟩ := HZ.out.row hyne
        have hTi := HZ.out.mono i hiy
        have hTn := chain_le HZ.out.mono ys.length (Nat.le_refl _) (i + 1) (by omega)
        obtain ⟨g, t, hE⟩ := zone_of (HZ.out.nds i hiy hil) hTi
        have HE : Hid _ := hE
        have hel : ys[i].eqs.length = l[i].eqs.length := (HZ.out.nds i hiy hil).eqs.len
        have n6 : W3.cell? ⟨G, i * 7 + 6, none⟩ = some (.slice ys[i].qa ys[i].eqs.length ys[i].qc) := by
          have := hrowq i hiy 6 (by omega)
          rw [Nat.zero_add] at this
          exact this
        have m6 : w.cell? ⟨b0, o0 + i * 7 + 6, none⟩ = some (.slice l[i].qa l[i].eqs.length l[i].qc) := hrow i hil 6 (by omega)
        have hgl := HG.out.1 _ (List.getElem_mem hil)
        have hll := HL.out.2 _ (List.getElem_mem hil)
        have hmn : l[i].eqs.length ≤ 1048576 := hgl.2.2.2.2.1
        have HEG : Hid (∀ q ∈ l[i].eqs, q.good) := hgl.2.2.2.2.2.2.2.2
        have HEL : Hid (rowIn Eqn.cells 8 w l[i].qa l[i].eqs ∧ ∀ q ∈ l[i].eqs, q.lies w) := hll.2.2.2
        clear hgl hll hrow hrowq
        generalize l[i] = nd at *
        generalize ys[i] = yn at *
        obtain ⟨qa, qc, eqs, hq1, hq2, hq3⟩ : ∃ qa qc eqs, qa = nd.qa ∧ qc = nd.qc ∧ eqs = nd.eqs := ⟨_, _, _, rfl, rfl, rfl⟩
        obtain ⟨qa', qc', eqs', hq4, hq5, hq6⟩ : ∃ qa qc eqs, qa = yn.qa ∧ qc = yn.qc ∧ eqs = yn.eqs := ⟨_, _, _, rfl, rfl, rfl⟩
        obtain ⟨m, hm⟩ : ∃ m, m = eqs.length := ⟨_, rfl⟩
        have hm' : m = eqs'.length := by rw [hm, hq3, hq6, hel]
        have hE0 := hE.low
        have hE1 := hE.mono
        have hE2 := hE.high
        have hE3 := hE.row
        have hE4 := hE.eqs
        rw [← hq6] at hE1 hE2 hE3
        rw [← hq6, ← hm', ← hq4, ← hq5] at n6
        rw [← hq3, ← hm, ← hq1, ← hq2] at m6
        rw [← hq3] at hmn HEG HEL
        rw [← hq1] at HEL
        rw [← hq4] at hE3
        have HE4 : Hid (∀ k (h : k < eqs'.length) (h' : k < eqs.length), EqCp (t k) (t (k + 1)) W3 eqs'[k] eqs[k]) := by subst hq3 hq6; exact hE4
        have HE1 : Hid (∀ k, k ≤ m → T i ≤ t k ∧ t k ≤ w2.heap.size) := fun k hk => by
          have h1 := chain_le hE1 k (by omega) 0 (by omega)
          have h2 := chain_le hE1 eqs'.length (Nat.le_refl _) k (by omega)
          exact ⟨by omega, by omega⟩
        have HE1m : Hid (∀ k, k < m → t k ≤ t (k + 1)) := fun k hk => hE1 k (by omega)
        have HTm : Hid (t m ≤ T (i + 1)) := by rw [Hid, hm']; exact hE2
        have HE3 : Hid _ := hE3
        have HM : Hid (m = eqs.length) := hm
        have HM' : Hid (m = eqs'.length) := hm'
        rw [← hm] at hmn
        have c6 : wr.cell? ⟨b0, o0 + i * 7 + 6, none⟩ = some (.slice qa m qc) := (HC.out.below.cell (p := ⟨b0, o0 + i * 7 + 6, none⟩) hbl).trans m6
        have HN6 : Hid _ := n6
        have HM6 : Hid _ := m6
        have HC0 : Hid (CIn w W3 (zE G (T i) g t 0) wr) := HC.out.imp fun b _ h => by
          have := (HE1.out 0 (by omega)).1
          rcases h with h | h | h
          · exact .inl h
          · exact .inr h.1
          · exact .inr (by omega)
        clear hE hE0 hE1 hE2 hE3 hE4 hq1 hq2 hq3 hq4 hq5 hq6 hm hm' hel n6 m6 HE
        go_wp2_with fail
        go_loopw [5] (fun j wq => ∃ k : Nat, k ≤ m ∧ j = .int .i64 k ∧ Hid (CIn w W3 (zE G (T i) g t k) wq)) (fun j _ => m - (intOf j).toNat)
        case atStart => exact ⟨0, by omega, rfl, HC0⟩
        case round =>
          clear cp0 cq0 lp0 lq0 c6 HC0 HC
          obtain ⟨k, hkm, rfl, HC⟩ := hrel
          have htk := HE1.out k hkm
          obtain ⟨cp0, cq0, lp0, lq0⟩ := HCel.out _ wr HC.out (.inl (by omega)) (.inr (.inr (by omega)))
          have c6 : wr.cell? ⟨b0, o0 + i * 7 + 6, none⟩ = some (.slice qa m qc) := (HC.out.below.cell (p := ⟨b0, o0 + i * 7 + 6, none⟩) hbl).trans HM6.out
          by_cases hkl : k < m
          · have hke : k < eqs.length := by rw [← HM.out]; exact hkl
            have hke' : k < eqs'.length := by rw [← HM'.out]; exact hkl
            obtain ⟨b1, o1, rfl, hb1l, hrow1⟩ := HEL.out.1 (by intro h; rw [h] at hke; simp at hke)
            have heq := HE4.out k hke' hke
            obtain ⟨rfl, hg1, hg2, hrow3⟩ := HE3.out (by intro h; rw [h] at hke'; simp at hke')
            have hgd := HEG.out _ (List.getElem_mem hke)
            have hld := (HEL.out.2 _ (List.getElem_mem hke)).2
            have hp1 : ∀ j, j < 8 → w.cell? ⟨b1, o1 + k * 8 + j, none⟩ = eqs[k].cells[j]? := fun j hj => hrow1 k hke j hj
            have hp3 : ∀ j, j < 8 → W3.cell? ⟨g, k * 8 + j, none⟩ = eqs'[k].cells[j]? := fun j hj => by have := hrow3 k hke' j hj; rw [Nat.zero_add] at this; exact this
            generalize eqs[k] = qk at *
            generalize eqs'[k] = yk at *
            have hpq := heq.pq
            have hlk := heq.like
            have hsk := heq.skel
            have hir := heq.inR
            have hyl := heq.lies
            have hyg := heq.good
            have hGs : G < W3.heap.size := by have := HB3.out.size; omega
            have htk1 := HE1.out (k + 1) (by omega)
            have hgs : g < W3.heap.size := by have := HB3.out.size; have := (HE1.out 0 (by omega)).2; omega
            have hws := HC.out.size
            have hb0s : b0 < wr.heap.size := Nat.lt_of_lt_of_le hbl HC.out.below.size
            have hb1s : b1 < wr.heap.size := Nat.lt_of_lt_of_le hb1l HC.out.below.size
            have hGw : G < wr.heap.size := by omega
            have hgw : g < wr.heap.size := by omega
            have a6 : wr.cell? ⟨G, i * 7 + 6, none⟩ = some (.slice (some ⟨g, 0, none⟩) m qc') := (HC.out.cell hGs (.inl (Nat.le_refl _))).trans HN6.out
            have hp1' : ∀ j, j < 8 → wr.cell? ⟨b1, o1 + k * 8 + j, none⟩ = qk.cells[j]? := fun j hj => (HC.out.below.cell (p := ⟨b1, _, none⟩) hb1l).trans (hp1 j hj)
            have hp3' : ∀ j, j < 8 → wr.cell? ⟨g, k * 8 + j, none⟩ = yk.cells[j]? := fun j hj => (HC.out.cell hgs (.inr (.inl ⟨hg1, Nat.le_refl _⟩))).trans (hp3 j hj)
            have hyw : ∀ x, t k ≤ x → x < t (k + 1) → wr.heap[x]? = W3.heap[x]? := fun x h1 h2 => HC.out.clean x (by have := HB3.out.size; omega) (.inr (.inr h1))
            have HYl : Hid (yk.e.lies wr) := lies_inR hyw hir hyl
            have HYs : Hid (yk.e.skel wr) := skel_inR hyw hir hsk
            have HYr : Hid (yk.e.inR (t k) (t (k + 1))) := hir
            have HYk : Hid (yk.e.like qk.e) := hlk
            have HYg : Hid (yk.e.good) := hyg
            have hEb : qk.e.bulk ≤ 1048576 := hgd.2.2.2
            have hEz : qk.e.size ≤ 1048576 := Nat.le_trans (size_bulk _) hEb
            have HEg : Hid (qk.e.good) := hgd.2.2.1
            have HEl : Hid (qk.e.lies w) := hld
            have HEb : Hid (qk.e.bulk ≤ 1048576) := hEb
            have HEz : Hid (qk.e.size ≤ 1048576) := hEz
            clear hrow1 hrow3 heq hgd hld hp1 hp3 hlk hsk hir hyl hyg hyw hEb hEz
            obtain ⟨na1, nc1, ns1, pq1, ⟨kd1, pl1, nm1, it1, dn1, ad1, cap1, l1⟩⟩ := qk
            obtain ⟨na3, nc3, ns3, pq3, ⟨kd3, pl3, nm3, it3, dn3, ad3, cap3, l3⟩⟩ := yk
            simp only at hpq HYl HYs HYr HYk HYg HEg HEl HEb HEz
            subst hpq
            obtain ⟨E, hE⟩ : ∃ E : Ex, E = .mk kd1 pl1 nm1 it1 dn1 ad1 cap1 l1 := ⟨_, rfl⟩
            obtain ⟨Y, hY⟩ : ∃ Y : Ex, Y = .mk kd3 pl3 nm3 it3 dn3 ad3 cap3 l3 := ⟨_, rfl⟩
            have hEv : E.val = .agg #[.int .u8 kd1, .int .i64 pl1, .string nm1, .int .i64 it1, .int .i64 dn1, .slice ad1 l1.length cap1] := by rw [hE]; rfl
            have hYv : Y.val = .agg #[.int .u8 kd3, .int .i64 pl3, .string nm3, .int .i64 it3, .int .i64 dn3, .slice ad3 l3.length cap3] := by rw [hY]; rfl
            rw [← hE] at HYk HEg HEl HEb HEz
            rw [← hY] at HYl HYs HYr HYk HYg
            have f1 : wr.cell? ⟨b1, o1 + k * 8 + 1, none⟩ = some (.int .i64 pq3) := hp1' 1 (by omega)
            have f2 : wr.cell? ⟨b1, o1 + k * 8 + 2, none⟩ = some (.int .u8 kd1) := hp1' 2 (by omega)
            have f3 : wr.cell? ⟨b1, o1 + k * 8 + 2 + 1, none⟩ = some (.int .i64 pl1) := hp1' 3 (by omega)
            have f4 : wr.cell? ⟨b1, o1 + k * 8 + 2 + 2, none⟩ = some (.string nm1) := hp1' 4 (by omega)
            have f5 : wr.cell? ⟨b1, o1 + k * 8 + 2 + 3, none⟩ = some (.int .i64 it1) := hp1' 5 (by omega)
            have f6 : wr.cell? ⟨b1, o1 + k * 8 + 2 + 4, none⟩ = some (.int .i64 dn1) := hp1' 6 (by omega)
            have f7 : wr.cell? ⟨b1, o1 + k * 8 + 2 + 5, none⟩ = some (.slice ad1 l1.length cap1) := hp1' 7 (by omega)
            have g1 : wr.cell? ⟨g, k * 8 + 1, none⟩ = some (.int .i64 pq3) := hp3' 1 (by omega)
            have g2 : wr.cell? ⟨g, k * 8 + 2, none⟩ = some (.int .u8 kd3) := hp3' 2 (by omega)
            have g3 : wr.cell? ⟨g, k * 8 + 2 + 1, none⟩ = some (.int .i64 pl3) := hp3' 3 (by omega)
            have g4 : wr.cell? ⟨g, k * 8 + 2 + 2, none⟩ = some (.string nm3) := hp3' 4 (by omega)
            have g5 : wr.cell? ⟨g, k * 8 + 2 + 3, none⟩ = some (.int .i64 it3) := hp3' 5 (by omega)
            have g6 : wr.cell? ⟨g, k * 8 + 2 + 4, none⟩ = some (.int .i64 dn3) := hp3' 6 (by omega)
            have g7 : wr.cell? ⟨g, k * 8 + 2 + 5, none⟩ = some (.slice ad3 l3.length cap3) := hp3' 7 (by omega)
            clear hp1' hp3'
            obtain ⟨Wa, hWa⟩ : ∃ Wa : World, Wa = wr.alloc (.cells #[.int .u8 kd1, .int .i64 pl1, .string nm1, .int .i64 it1, .int .i64 dn1, .slice ad1 l1.length cap1] 33) := ⟨_, rfl⟩
            have hba : Below wr.heap.size wr Wa := by rw [hWa]; exact (Below.refl _ _).alloc (Nat.le_refl _) _
            have hsa : Wa.heap.size = wr.heap.size + 1 := by rw [hWa]; simp
            have e0 : Wa.cell? ⟨wr.heap.size, 0, none⟩ = some (.int .u8 kd1) := by rw [hWa]; simp
            have e1 : Wa.cell? ⟨wr.heap.size, 1, none⟩ = some (.int .i64 pl1) := by rw [hWa]; simp
            have e2 : Wa.cell? ⟨wr.heap.size, 2, none⟩ = some (.string nm1) := by rw [hWa]; simp
            have e3 : Wa.cell? ⟨wr.heap.size, 3, none⟩ = some (.int .i64 it1) := by rw [hWa]; simp
            have e4 : Wa.cell? ⟨wr.heap.size, 4, none⟩ = some (.int .i64 dn1) := by rw [hWa]; simp
            have e5 : Wa.cell? ⟨wr.heap.size, 5, none⟩ = some (.slice ad1 l1.length cap1) := by rw [hWa]; simp
            have HCa : Hid (CIn w W3 (zE G (T i) g t k) Wa) := HC.out.grow hba
            have CE := copy_calls E HEb.out HEg.out Wa (lies_below HCa.out.below _ HEl.out)
            rw [hEv] at CE
            have HWa : Hid (_ = Wa) := hWa.symm
            clear hWa
            go_wp2_with fail
            rw [HWa.out]
            refine CE.mono ?_
            rintro x wb ⟨c, rfl, hco⟩
            have HCo : Hid _ := hco
            have hcol := hco.like
            obtain ⟨kd2, pl2, nm2, it2, dn2, ad2, cap2, l2⟩ := c
            have hCv : (Ex.mk kd2 pl2 nm2 it2 dn2 ad2 cap2 l2).val = .agg #[.int .u8 kd2, .int .i64 pl2, .string nm2, .int .i64 it2, .int .i64 dn2, .slice ad2 l2.length cap2] := rfl
            rw [hCv]
            obtain ⟨Wc, hWc⟩ : ∃ Wc : World, Wc = wb.alloc (.cells #[.int .u8 kd2, .int .i64 pl2, .string nm2, .int .i64 it2, .int .i64 dn2, .slice ad2 l2.length cap2] 33) := ⟨_, rfl⟩
            have hbc : Below wb.heap.size wb Wc := by rw [hWc]; exact (Below.refl _ _).alloc (Nat.le_refl _) _
            have hsc : Wc.heap.size = wb.heap.size + 1 := by rw [hWc]; simp
            have d0 : Wc.cell? ⟨wb.heap.size, 0, none⟩ = some (.int .u8 kd2) := by rw [hWc]; simp
            have d1 : Wc.cell? ⟨wb.heap.size, 1, none⟩ = some (.int .i64 pl2) := by rw [hWc]; simp
            have d2 : Wc.cell? ⟨wb.heap.size, 2, none⟩ = some (.string nm2) := by rw [hWc]; simp
            have d3 : Wc.cell? ⟨wb.heap.size, 3, none⟩ = some (.int .i64 it2) := by rw [hWc]; simp
            have d4 : Wc.cell? ⟨wb.heap.size, 4, none⟩ = some (.int .i64 dn2) := by rw [hWc]; simp
            have d5 : Wc.cell? ⟨wb.heap.size, 5, none⟩ = some (.slice ad2 l2.length cap2) := by rw [hWc]; simp
            have hab := hco.below
            have hac : Below Wa.heap.size Wa Wc := hab.trans (hbc.mono hab.size)
            have HCc : Hid (CIn w W3 (zE G (T i) g t k) Wc) := HCa.out.grow hac
            have CK := refCopy_calls E.size E (Nat.le_refl _) HEz.out Wc (lies_below HCc.out.below _ HEl.out)
            rw [hEv] at CK
            have hea : ∀ j, Wc.cell? ⟨wr.heap.size, j, none⟩ = Wa.cell? ⟨wr.heap.size, j, none⟩ := fun j => hac.cell (p := ⟨wr.heap.size, j, none⟩) (by show wr.heap.size < _; omega)
            have hbe : ∀ j, wb.cell? ⟨wr.heap.size, j, none⟩ = Wa.cell? ⟨wr.heap.size, j, none⟩ := fun j => hab.cell (p := ⟨wr.heap.size, j, none⟩) (by show wr.heap.size < _; omega)
            have hwrb : wr.heap.size < wb.heap.size := by have := hab.size; omega
            have h0b := (hbe 0).trans e0
            have h1b := (hbe 1).trans e1
            have h2b := (hbe 2).trans e2
            have h3b := (hbe 3).trans e3
            have h4b := (hbe 4).trans e4
            have h5b := (hbe 5).trans e5
            have HWc : Hid (_ = Wc) := hWc.symm
            clear hWc CE hco hbe
            go_wp2_with fail
            rw [HWc.out]
            refine CK.mono ?_
            rintro x wd ⟨⟨kd4, pl4, nm4, it4, dn4, ad4, cap4, l4⟩, rfl, hko⟩
            have HKo : Hid _ := hko
            have hKv : (Ex.mk kd4 pl4 nm4 it4 dn4 ad4 cap4 l4).val = .agg #[.int .u8 kd4, .int .i64 pl4, .string nm4, .int .i64 it4, .int .i64 dn4, .slice ad4 l4.length cap4] := rfl
            rw [hKv]
            obtain ⟨We, hWe⟩ : ∃ We : World, We = wd.alloc (.cells #[.int .u8 kd4, .int .i64 pl4, .string nm4, .int .i64 it4, .int .i64 dn4, .slice ad4 l4.length cap4] 33) := ⟨_, rfl⟩
            have hbde : Below wd.heap.size wd We := by rw [hWe]; exact (Below.refl _ _).alloc (Nat.le_refl _) _
            have hse : We.heap.size = wd.heap.size + 1 := by rw [hWe]; simp
            have p0 : We.cell? ⟨wd.heap.size, 0, none⟩ = some (.int .u8 kd4) := by rw [hWe]; simp
            have p1 : We.cell? ⟨wd.heap.size, 1, none⟩ = some (.int .i64 pl4) := by rw [hWe]; simp
            have p2 : We.cell? ⟨wd.heap.size, 2, none⟩ = some (.string nm4) := by rw [hWe]; simp
            have p3 : We.cell? ⟨wd.heap.size, 3, none⟩ = some (.int .i64 it4) := by rw [hWe]; simp
            have p4 : We.cell? ⟨wd.heap.size, 4, none⟩ = some (.int .i64 dn4) := by rw [hWe]; simp
            have p5 : We.cell? ⟨wd.heap.size, 5, none⟩ = some (.slice ad4 l4.length cap4) := by rw [hWe]; simp
            have hcd := hko.below
            have hce : Below Wc.heap.size Wc We := hcd.trans (hbde.mono hcd.size)
            have hae : Below Wa.heap.size Wa We := hac.trans (hce.mono hac.size)
            have hre : Below wr.heap.size wr We := hba.trans (hae.mono hba.size)
            have HCe : Hid (CIn w W3 (zE G (T i) g t k) We) := HCc.out.grow hce
            have hsz : wr.heap.size < wb.heap.size ∧ wb.heap.size < wd.heap.size ∧ wd.heap.size < We.heap.size := ⟨hwrb, by have := hcd.size; omega, by omega⟩
            have HWA : Hid (∀ W, Hid (Below We.heap.size We W) → Hid (Below We.heap.size We W) ∧ W.cell? ⟨wr.heap.size, 0, none⟩ = some (.int .u8 kd1) ∧ W.cell? ⟨wr.heap.size, 1, none⟩ = some (.int .i64 pl1) ∧ W.cell? ⟨wr.heap.size, 2, none⟩ = some (.string nm1) ∧ W.cell? ⟨wr.heap.size, 3, none⟩ = some (.int .i64 it1) ∧ W.cell? ⟨wr.heap.size, 4, none⟩ = some (.int .i64 dn1) ∧ W.cell? ⟨wr.heap.size, 5, none⟩ = some (.slice ad1 l1.length cap1) ∧ W.cell? ⟨wb.heap.size, 0, none⟩ = some (.int .u8 kd2) ∧ W.cell? ⟨wb.heap.size, 1, none⟩ = some (.int .i64 pl2) ∧ W.cell? ⟨wb.heap.size, 2, none⟩ = some (.string nm2) ∧ W.cell? ⟨wb.heap.size, 3, none⟩ = some (.int .i64 it2) ∧ W.cell? ⟨wb.heap.size, 4, none⟩ = some (.int .i64 dn2) ∧ W.cell? ⟨wb.heap.size, 5, none⟩ = some (.slice ad2 l2.length cap2) ∧ W.cell? ⟨w2.heap.size, 0, none⟩ = some (.slice (some ⟨G, 0, none⟩) n c') ∧ W.cell? ⟨G, i * 7 + 6, none⟩ = some (.slice (some ⟨g, 0, none⟩) m qc') ∧ W.cell? ⟨g, k * 8 + 1, none⟩ = some (.int .i64 pq3) ∧ W.cell? ⟨g, k * 8 + 2, none⟩ = some (.int .u8 kd3) ∧ W.cell? ⟨g, k * 8 + 2 + 1, none⟩ = some (.int .i64 pl3) ∧ W.cell? ⟨g, k * 8 + 2 + 2, none⟩ = some (.string nm3) ∧ W.cell? ⟨g, k * 8 + 2 + 3, none⟩ = some (.int .i64 it3) ∧ W.cell? ⟨g, k * 8 + 2 + 4, none⟩ = some (.int .i64 dn3) ∧ W.cell? ⟨g, k * 8 + 2 + 5, none⟩ = some (.slice ad3 l3.length cap3) ∧ W.cell? ⟨w.heap.size, 0, none⟩ = some (.slice (some ⟨b0, o0, none⟩) n cap) ∧ W.cell? ⟨b0, o0 + i * 7 + 6, none⟩ = some (.slice (some ⟨b1, o1, none⟩) m qc) ∧ W.cell? ⟨b1, o1 + k * 8 + 1, none⟩ = some (.int .i64 pq3)) := fun W h => by
              have ho : ∀ b j, b < wr.heap.size → W.cell? ⟨b, j, none⟩ = wr.cell? ⟨b, j, none⟩ := fun b j hb => (h.out.cell (p := ⟨b, j, none⟩) (show b < _ by omega)).trans (hre.cell (p := ⟨b, j, none⟩) hb)
              have he : ∀ j, W.cell? ⟨wr.heap.size, j, none⟩ = Wa.cell? ⟨wr.heap.size, j, none⟩ := fun j => (h.out.cell (p := ⟨wr.heap.size, j, none⟩) (show wr.heap.size < _ by omega)).trans (hae.cell (p := ⟨wr.heap.size, j, none⟩) (show wr.heap.size < _ by omega))
              have hc : ∀ j, W.cell? ⟨wb.heap.size, j, none⟩ = Wc.cell? ⟨wb.heap.size, j, none⟩ := fun j => (h.out.cell (p := ⟨wb.heap.size, j, none⟩) (show wb.heap.size < _ by omega)).trans (hce.cell (p := ⟨wb.heap.size, j, none⟩) (show wb.heap.size < _ by omega))
              exact ⟨h, (he 0).trans e0, (he 1).trans e1, (he 2).trans e2, (he 3).trans e3, (he 4).trans e4, (he 5).trans e5, (hc 0).trans d0, (hc 1).trans d1, (hc 2).trans d2, (hc 3).trans d3, (hc 4).trans d4, (hc 5).trans d5, (ho _ _ lq0).trans cq0, (ho _ _ hGw).trans a6, (ho _ _ hgw).trans g1, (ho _ _ hgw).trans g2, (ho _ _ hgw).trans g3, (ho _ _ hgw).trans g4, (ho _ _ hgw).trans g5, (ho _ _ hgw).trans g6, (ho _ _ hgw).trans g7, (ho _ _ lp0).trans cp0, (ho _ _ hb0s).trans c6, (ho _ _ hb1s).trans f1⟩
            have hcl : Hid ((Ex.mk kd2 pl2 nm2 it2 dn2 ad2 cap2 l2).lies We) := lies_below (hbc.trans (hce.mono hbc.size)) _ HCo.out.lies
            have hcs : Hid ((Ex.mk kd2 pl2 nm2 it2 dn2 ad2 cap2 l2).skel We) := skel_spoilt (Spoilt.of_same fun b hb => (hbc.trans (hce.mono hbc.size)).block b (exBlock_lt hb)) HCo.out.skel
            have hEle : Hid (E.lies We) := lies_below HCe.out.below _ HEl.out
            have hYle : Hid (Y.lies We) := lies_below hre _ HYl.out
            have hcz : (Ex.mk kd2 pl2 nm2 it2 dn2 ad2 cap2 l2).size = E.size := like_size hcol
            have hcb : (Ex.mk kd2 pl2 nm2 it2 dn2 ad2 cap2 l2).bulk = E.bulk := like_bulk hcol
            have hcdp : (Ex.mk kd2 pl2 nm2 it2 dn2 ad2 cap2 l2).depth = E.depth := like_depth hcol
            have hcca : (Ex.mk kd2 pl2 nm2 it2 dn2 ad2 cap2 l2).calls = E.calls := like_calls hcol
            have hyz : Y.size = E.size := like_size HYk.out
            have P1 : Hid (∀ W, Hid (Below We.heap.size We W) → Calls Tryd.prog 21 #[.agg #[.int .u8 kd2, .int .i64 pl2, .string nm2, .int .i64 it2, .int .i64 dn2, .slice ad2 l2.length cap2], .agg #[.int .u8 kd1, .int .i64 pl1, .string nm1, .int .i64 it1, .int .i64 dn1, .slice ad1 l1.length cap1]] W fun x w' => x = .returned (.bool true) ∧ Below W.heap.size W w') := fun W h => by
              have := places_calls _ _ E (Nat.le_refl _) (by rw [hcz]; exact HEz.out) hcol W (lies_below h.out _ hcl.out) (lies_below h.out _ hEle.out)
              rw [hEv, hCv] at this
              exact this
            have P2 : Hid (∀ W, Hid (Below We.heap.size We W) → Calls Tryd.prog 21 #[.agg #[.int .u8 kd3, .int .i64 pl3, .string nm3, .int .i64 it3, .int .i64 dn3, .slice ad3 l3.length cap3], .agg #[.int .u8 kd1, .int .i64 pl1, .string nm1, .int .i64 it1, .int .i64 dn1, .slice ad1 l1.length cap1]] W fun x w' => x = .returned (.bool true) ∧ Below W.heap.size W w') := fun W h => by
              have := places_calls _ Y E (Nat.le_refl _) (by rw [hyz]; exact HEz.out) HYk.out W (lies_below h.out _ hYle.out) (lies_below h.out _ hEle.out)
              rw [hEv, hYv] at this
              exact this
            have P3 : Hid (∀ W, Hid (Below We.heap.size We W) → Calls Tryd.prog 22 #[.agg #[.int .u8 kd2, .int .i64 pl2, .string nm2, .int .i64 it2, .int .i64 dn2, .slice ad2 l2.length cap2]] W fun x w' => x = .returned (.int .i64 (E.size : Nat)) ∧ Below W.heap.size W w') := fun W h => by
              have := size_prog _ (by rw [hcb]; exact HEb.out) HCo.out.good W (lies_below h.out _ hcl.out)
              rw [hCv, hcz] at this
              exact this
            have P4 : Hid (∀ W, Hid (Below We.heap.size We W) → Calls Tryd.prog 22 #[.agg #[.int .u8 kd1, .int .i64 pl1, .string nm1, .int .i64 it1, .int .i64 dn1, .slice ad1 l1.length cap1]] W fun x w' => x = .returned (.int .i64 (E.size : Nat)) ∧ Below W.heap.size W w') := fun W h => by
              have := size_prog E HEb.out HEg.out W (lies_below h.out _ hEle.out)
              rw [hEv] at this
              exact this
            have P5 : Hid (∀ W, Hid (Below We.heap.size We W) → Calls Tryd.prog 23 #[.agg #[.int .u8 kd2, .int .i64 pl2, .string nm2, .int .i64 it2, .int .i64 dn2, .slice ad2 l2.length cap2]] W fun x w' => x = .returned (.int .i64 (E.depth : Nat)) ∧ Below W.heap.size W w') := fun W h => by
              have := depth_prog _ (by rw [hcb]; exact HEb.out) HCo.out.good W (lies_below h.out _ hcl.out)
              rw [hCv, hcdp] at this
              exact this
            have P6 : Hid (∀ W, Hid (Below We.heap.size We W) → Calls Tryd.prog 23 #[.agg #[.int .u8 kd1, .int .i64 pl1, .string nm1, .int .i64 it1, .int .i64 dn1, .slice ad1 l1.length cap1]] W fun x w' => x = .returned (.int .i64 (E.depth : Nat)) ∧ Below W.heap.size W w') := fun W h => by
              have := depth_prog E HEb.out HEg.out W (lies_below h.out _ hEle.out)
              rw [hEv] at this
              exact this
            have P7 : Hid (∀ W, Hid (Below We.heap.size We W) → Calls Tryd.prog 25 #[.agg #[.int .u8 kd2, .int .i64 pl2, .string nm2, .int .i64 it2, .int .i64 dn2, .slice ad2 l2.length cap2]] W fun x w' => ∃ v, x = .returned v ∧ Mine w' W.heap.size v E.calls ∧ Below W.heap.size W w') := fun W h => by
              have := calls_prog _ (by rw [hcb]; exact HEb.out) HCo.out.good W (lies_below h.out _ hcl.out)
              rw [hCv, hcca] at this
              exact this
            have P8 : Hid (∀ W, Hid (Below We.heap.size We W) → Calls Tryd.prog 25 #[.agg #[.int .u8 kd1, .int .i64 pl1, .string nm1, .int .i64 it1, .int .i64 dn1, .slice ad1 l1.length cap1]] W fun x w' => ∃ v, x = .returned v ∧ Mine w' W.heap.size v E.calls ∧ Below W.heap.size W w') := fun W h => by
              have := calls_prog E HEb.out HEg.out W (lies_below h.out _ hEle.out)
              rw [hEv] at this
              exact this
            have P9 : Hid (∀ W v v' B B', Mine W B v E.calls → Mine W B' v' E.calls → Calls Tryd.prog 24 #[v, v'] W fun x w' => x = .returned (.bool true) ∧ Below W.heap.size W w') := fun W v v' B B' h1 h2 => (texts_calls E.calls W B B' v v' (Nat.le_trans (calls_size E) HEz.out) h1.own h2.own).mono fun x w'' h => ⟨h.1, by have := h.2; first | exact this | exact Gr.below this⟩
            have bl : Hid (∀ W W', Hid (Below We.heap.size We W) → Below W.heap.size W W' → Hid (Below We.heap.size We W')) := fun W W' h1 h2 => h1.out.trans (h2.mono h1.out.size)
            have hKp : Hid (∀ W, Hid (Below We.heap.size We W) → (W.cell? ⟨wd.heap.size, 0, none⟩ = some (.int .u8 kd4) ∧ W.cell? ⟨wd.heap.size, 1, none⟩ = some (.int .i64 pl4) ∧ W.cell? ⟨wd.heap.size, 2, none⟩ = some (.string nm4) ∧ W.cell? ⟨wd.heap.size, 3, none⟩ = some (.int .i64 it4) ∧ W.cell? ⟨wd.heap.size, 4, none⟩ = some (.int .i64 dn4) ∧ W.cell? ⟨wd.heap.size, 5, none⟩ = some (.slice ad4 l4.length cap4))) := fun W h => by
              have hk : ∀ j, W.cell? ⟨wd.heap.size, j, none⟩ = We.cell? ⟨wd.heap.size, j, none⟩ := fun j => h.out.cell (p := ⟨wd.heap.size, j, none⟩) (show wd.heap.size < _ by omega)
              exact ⟨(hk 0).trans p0, (hk 1).trans p1, (hk 2).trans p2, (hk 3).trans p3, (hk 4).trans p4, (hk 5).trans p5⟩
            have KD : Hid (Below We.heap.size We We.drew) := (Below.refl _ _).drew
            have HSz : Hid _ := hsz
            have HSs : Hid (Wa.heap.size = wr.heap.size + 1 ∧ Wc.heap.size = wb.heap.size + 1 ∧ We.heap.size = wd.heap.size + 1) := ⟨hsa, hsc, hse⟩
            have HKl : Hid ((Ex.mk kd4 pl4 nm4 it4 dn4 ad4 cap4 l4).lies We) := lies_below hbde _ hko.lies
            have hi0 : (0 : Int) ≤ (i : Int) := by omega
            have hi1 : (i : Int) < (n : Int) := by omega
            have hk0 : (0 : Int) ≤ (k : Int) := by omega
            have hk1 : (k : Int) < (m : Int) := by omega
            have HWe : Hid (_ = We) := hWe.symm
            have HEe : Hid (E = .mk kd1 pl1 nm1 it1 dn1 ad1 cap1 l1) := hE
            have HYe : Hid (Y = .mk kd3 pl3 nm3 it3 dn3 ad3 cap3 l3) := hY
            obtain ⟨-, sw0, sw1, sw2, sw3, sw4, sw5, sw6, sw7, sw8, sw9, sw10, sw11, sw12, sw13, sw14, sw15, sw16, sw17, sw18, sw19, sw20, sw21, sw22, sw23⟩ := HWA.out We (Below.refl _ _)
            clear hWe CK hko hcol hcz hcb hcdp hcca hyz h0b h1b h2b h3b h4b h5b hea e0 e1 e2 e3 e4 e5 d0 d1 d2 d3 d4 d5 p0 p1 p2 p3 p4 p5 f1 f2 f3 f4 f5 f6 f7 g1 g2 g3 g4 g5 g6 g7 a6 c6 cp0 cq0 hac hab hbc hba hcd hce hae hbde
            clear hsa hsc hse hEv hYv hCv hKv hE hY
            go_wp2_with fail
            rw [HWe.out]
            go_region_held3 (fun w' => Hid (Below We.heap.size We w') ∧ w'.cell? ⟨wr.heap.size, 0, none⟩ = some (.int .u8 kd1) ∧ w'.cell? ⟨wr.heap.size, 1, none⟩ = some (.int .i64 pl1) ∧ w'.cell? ⟨wr.heap.size, 2, none⟩ = some (.string nm1) ∧ w'.cell? ⟨wr.heap.size, 3, none⟩ = some (.int .i64 it1) ∧ w'.cell? ⟨wr.heap.size, 4, none⟩ = some (.int .i64 dn1) ∧ w'.cell? ⟨wr.heap.size, 5, none⟩ = some (.slice ad1 l1.length cap1) ∧ w'.cell? ⟨wb.heap.size, 0, none⟩ = some (.int .u8 kd2) ∧ w'.cell? ⟨wb.heap.size, 1, none⟩ = some (.int .i64 pl2) ∧ w'.cell? ⟨wb.heap.size, 2, none⟩ = some (.string nm2) ∧ w'.cell? ⟨wb.heap.size, 3, none⟩ = some (.int .i64 it2) ∧ w'.cell? ⟨wb.heap.size, 4, none⟩ = some (.int .i64 dn2) ∧ w'.cell? ⟨wb.heap.size, 5, none⟩ = some (.slice ad2 l2.length cap2) ∧ w'.cell? ⟨w2.heap.size, 0, none⟩ = some (.slice (some ⟨G, 0, none⟩) n c') ∧ w'.cell? ⟨G, i * 7 + 6, none⟩ = some (.slice (some ⟨g, 0, none⟩) m qc') ∧ w'.cell? ⟨g, k * 8 + 1, none⟩ = some (.int .i64 pq3) ∧ w'.cell? ⟨g, k * 8 + 2, none⟩ = some (.int .u8 kd3) ∧ w'.cell? ⟨g, k * 8 + 2 + 1, none⟩ = some (.int .i64 pl3) ∧ w'.cell? ⟨g, k * 8 + 2 + 2, none⟩ = some (.string nm3) ∧ w'.cell? ⟨g, k * 8 + 2 + 3, none⟩ = some (.int .i64 it3) ∧ w'.cell? ⟨g, k * 8 + 2 + 4, none⟩ = some (.int .i64 dn3) ∧ w'.cell? ⟨g, k * 8 + 2 + 5, none⟩ = some (.slice ad3 l3.length cap3) ∧ w'.cell? ⟨w.heap.size, 0, none⟩ = some (.slice (some ⟨b0, o0, none⟩) n cap) ∧ w'.cell? ⟨b0, o0 + i * 7 + 6, none⟩ = some (.slice (some ⟨b1, o1, none⟩) m qc) ∧ w'.cell? ⟨b1, o1 + k * 8 + 1, none⟩ = some (.int .i64 pq3)) (go_simp) (first
              | (go_at_call_of 21 ad2; refine (P1.out _ KD).mono ?_; rintro r z1 ⟨rfl, hb1⟩; obtain ⟨B1, sa0, sa1, sa2, sa3, sa4, sa5, sa6, sa7, sa8, sa9, sa10, sa11, sa12, sa13, sa14, sa15, sa16, sa17, sa18, sa19, sa20, sa21, sa22, sa23⟩ := HWA.out z1 (bl.out _ z1 KD hb1); clear hb1)
              | (go_at_call_of 21 ad3; refine (P2.out _ B1).mono ?_; rintro r z2 ⟨rfl, hb2⟩; obtain ⟨B2, sb0, sb1, sb2, sb3, sb4, sb5, sb6, sb7, sb8, sb9, sb10, sb11, sb12, sb13, sb14, sb15, sb16, sb17, sb18, sb19, sb20, sb21, sb22, sb23⟩ := HWA.out z2 (bl.out _ z2 B1 hb2); clear hb2)
              | (go_at_call_of 22 ad2; refine (P3.out _ B2).mono ?_; rintro r z3 ⟨rfl, hb3⟩; obtain ⟨B3, sc0, sc1, sc2, sc3, sc4, sc5, sc6, sc7, sc8, sc9, sc10, sc11, sc12, sc13, sc14, sc15, sc16, sc17, sc18, sc19, sc20, sc21, sc22, sc23⟩ := HWA.out z3 (bl.out _ z3 B2 hb3); clear hb3)
              | (go_at_call_of 22 ad1; refine (P4.out _ B3).mono ?_; rintro r z4 ⟨rfl, hb4⟩; obtain ⟨B4, sd0, sd1, sd2, sd3, sd4, sd5, sd6, sd7, sd8, sd9, sd10, sd11, sd12, sd13, sd14, sd15, sd16, sd17, sd18, sd19, sd20, sd21, sd22, sd23⟩ := HWA.out z4 (bl.out _ z4 B3 hb4); clear hb4)
              | (go_at_call_of 23 ad2; refine (P5.out _ B4).mono ?_; rintro r z5 ⟨rfl, hb5⟩; obtain ⟨B5, se0, se1, se2, se3, se4, se5, se6, se7, se8, se9, se10, se11, se12, se13, se14, se15, se16, se17, se18, se19, se20, se21, se22, se23⟩ := HWA.out z5 (bl.out _ z5 B4 hb5); clear hb5)
              | (go_at_call_of 23 ad1; refine (P6.out _ B5).mono ?_; rintro r z6 ⟨rfl, hb6⟩; obtain ⟨B6, sf0, sf1, sf2, sf3, sf4, sf5, sf6, sf7, sf8, sf9, sf10, sf11, sf12, sf13, sf14, sf15, sf16, sf17, sf18, sf19, sf20, sf21, sf22, sf23⟩ := HWA.out z6 (bl.out _ z6 B5 hb6); clear hb6)
              | (go_at_call_of 25 ad2; refine (P7.out _ B6).mono ?_; rintro r z7 ⟨vv7, rfl, hm7, hb7⟩; have M7 : Hid _ := hm7; obtain ⟨B7, sg0, sg1, sg2, sg3, sg4, sg5, sg6, sg7, sg8, sg9, sg10, sg11, sg12, sg13, sg14, sg15, sg16, sg17, sg18, sg19, sg20, sg21, sg22, sg23⟩ := HWA.out z7 (bl.out _ z7 B6 hb7); clear hb7 hm7)
              | (go_at_call_of 25 ad1; refine (P8.out _ B7).mono ?_; rintro r z8 ⟨vv8, rfl, hm8, hb8⟩; have M8 : Hid _ := hm8; have M7' : Hid _ := M7.out.below hb8; obtain ⟨B8, sh0, sh1, sh2, sh3, sh4, sh5, sh6, sh7, sh8, sh9, sh10, sh11, sh12, sh13, sh14, sh15, sh16, sh17, sh18, sh19, sh20, sh21, sh22, sh23⟩ := HWA.out z8 (bl.out _ z8 B7 hb8); clear hb8 hm8)
              | (go_at_call 24; refine (P9.out _ _ _ _ _ M7'.out M8.out).mono ?_; rintro r z9 ⟨rfl, hb9⟩; obtain ⟨B9, si0, si1, si2, si3, si4, si5, si6, si7, si8, si9, si10, si11, si12, si13, si14, si15, si16, si17, si18, si19, si20, si21, si22, si23⟩ := HWA.out z9 (bl.out _ z9 B8 hb9); clear hb9))
            go_wp2_with fail
            clear sa0 sa1 sa2 sa3 sa4 sa5 sa6 sa7 sa8 sa9 sa10 sa11 sa12 sa13 sa14 sa15 sa16 sa17 sa18 sa19 sa20 sa21 sa22 sa23 sb0 sb1 sb2 sb3 sb4 sb5 sb6 sb7 sb8 sb9 sb10 sb11 sb12 sb13 sb14 sb15 sb16 sb17 sb18 sb19 sb20 sb21 sb22 sb23 sc0 sc1 sc2 sc3 sc4 sc5 sc6 sc7 sc8 sc9 sc10 sc11 sc12 sc13 sc14 sc15 sc16 sc17 sc18 sc19 sc20 sc21 sc22 sc23 sd0 sd1 sd2 sd3 sd4 sd5 sd6 sd7 sd8 sd9 sd10 sd11 sd12 sd13 sd14 sd15 sd16 sd17 sd18 sd19 sd20 sd21 sd22 sd23 se0 se1 se2 se3 se4 se5 se6 se7 se8 se9 se10 se11 se12 se13 se14 se15 se16 se17 se18 se19 se20 se21 se22 se23 sf0 sf1 sf2 sf3 sf4 sf5 sf6 sf7 sf8 sf9 sf10 sf11 sf12 sf13 sf14 sf15 sf16 sf17 sf18 sf19 sf20 sf21 sf22 sf23 sg0 sg1 sg2 sg3 sg4 sg5 sg6 sg7 sg8 sg9 sg10 sg11 sg12 sg13 sg14 sg15 sg16 sg17 sg18 sg19 sg20 sg21 sg22 sg23 sh0 sh1 sh2 sh3 sh4 sh5 sh6 sh7 sh8 sh9 sh10 sh11 sh12 sh13 sh14 sh15 sh16 sh17 sh18 sh19 sh20 sh21 sh22 sh23 sw0 sw1 sw2 sw3 sw4 sw5 sw6 sw7 sw8 sw9 sw10 sw11 sw12 sw13 sw14 sw15 sw16 sw17 sw18 sw19 sw20 sw21 sw22 sw23
            have hs := HSz.out
            have hss := HSs.out
            have hbz := B9.out
            have hzs := hbz.size
            have hwt : w.heap.size < t k ∧ t (k + 1) ≤ W3.heap.size := ⟨by omega, by have := HB3.out.size; omega⟩
            have hW3r : W3.heap.size ≤ wr.heap.size := HC.out.size
            have csk : (Ex.mk kd2 pl2 nm2 it2 dn2 ad2 cap2 l2).skel z9 := skel_spoilt (Spoilt.of_same fun b hb => hbz.block b (exBlock_lt hb)) hcs.out
            have Q1 := spoil_calls _ (Ex.mk kd2 pl2 nm2 it2 dn2 ad2 cap2 l2) kd2 Wa.heap.size wb.heap.size (Nat.le_refl _) (by rw [like_size HCo.out.like]; exact HEz.out) z9 csk HCo.out.inR (by omega)
            simp only at Q1
            obtain ⟨kp0, kp1, kp2, kp3, kp4, kp5⟩ := hKp.out z9 B9
            have HCz : Hid (CIn w W3 (zE G (T i) g t k) z9) := HCe.out.grow hbz
            have hbz9 : Hid (Below We.heap.size We z9) := hbz
            refine Q1.mono ?_
            rintro x zg ⟨rfl, -, hbi⟩
            have kg : ∀ b j, b ≤ wr.heap.size → zg.cell? ⟨b, j, none⟩ = z9.cell? ⟨b, j, none⟩ := fun b j hb => hbi.cell (by omega) (by omega)
            have kd : ∀ j, zg.cell? ⟨wd.heap.size, j, none⟩ = z9.cell? ⟨wd.heap.size, j, none⟩ := fun j => hbi.cell (by omega) (by omega)
            have v0 := (kg wr.heap.size 0 (by omega)).trans si0
            have v1 := (kg wr.heap.size 1 (by omega)).trans si1
            have v2 := (kg wr.heap.size 2 (by omega)).trans si2
            have v3 := (kg wr.heap.size 3 (by omega)).trans si3
            have v4 := (kg wr.heap.size 4 (by omega)).trans si4
            have v5 := (kg wr.heap.size 5 (by omega)).trans si5
            have v12 := (kg w2.heap.size 0 (by omega)).trans si12
            have v13 := (kg G (i * 7 + 6) (by omega)).trans si13
            have v15 := (kg g (k * 8 + 2) (by omega)).trans si15
            have v16 := (kg g (k * 8 + 2 + 1) (by omega)).trans si16
            have v17 := (kg g (k * 8 + 2 + 2) (by omega)).trans si17
            have v18 := (kg g (k * 8 + 2 + 3) (by omega)).trans si18
            have v19 := (kg g (k * 8 + 2 + 4) (by omega)).trans si19
            have v20 := (kg g (k * 8 + 2 + 5) (by omega)).trans si20
            have v21 := (kg w.heap.size 0 (by omega)).trans si21
            have q0 := (kd 0).trans kp0
            have q1 := (kd 1).trans kp1
            have q2 := (kd 2).trans kp2
            have q3 := (kd 3).trans kp3
            have q4 := (kd 4).trans kp4
            have q5 := (kd 5).trans kp5
            have HCg : Hid (CIn w W3 (zE G (T i) g t k) zg) := HCz.out.spoil hbi (by omega) fun b h1 h2 => ⟨h2, by omega⟩
            have ysk : Y.skel zg := skel_inR (fun x h1 h2 => (HCg.out.clean x (by omega) (.inr (.inr h1))).trans (HC.out.clean x (by omega) (.inr (.inr h1))).symm) HYr.out HYs.out
            have hgz := hbi.size
            have Q2 := spoil_calls _ Y kd3 (t k) (t (k + 1)) (Nat.le_refl _) (by rw [like_size HYk.out]; exact HEz.out) zg ysk HYr.out (by omega)
            rw [HYe.out] at Q2
            simp only at Q2
            have HBi : Hid _ := hbi
            have hgg : w2.heap.size < zg.heap.size ∧ G < zg.heap.size ∧ g < zg.heap.size ∧ wr.heap.size < zg.heap.size ∧ wd.heap.size < zg.heap.size := ⟨by omega, by omega, by omega, by omega, by omega⟩
            obtain ⟨hg1z, hg2z, hg3z, hg4z, hg5z⟩ := hgg
            clear Q1 kg kd csk ysk hbi si0 si1 si2 si3 si4 si5 si6 si7 si8 si9 si10 si11 si12 si13 si14 si15 si16 si17 si18 si19 si20 si21 si22 si23 kp0 kp1 kp2 kp3 kp4 kp5
            go_wp2_with fail
            refine Q2.mono ?_
            rintro x zh ⟨rfl, -, hbi2⟩
            have kh : ∀ b j, wr.heap.size ≤ b → b < zg.heap.size → zh.cell? ⟨b, j, none⟩ = zg.cell? ⟨b, j, none⟩ := fun b j h1 h2 => hbi2.cell h2 (by omega)
            have r0 := (kh wr.heap.size 0 (by omega) (by omega)).trans v0
            have r1 := (kh wr.heap.size 1 (by omega) (by omega)).trans v1
            have r2 := (kh wr.heap.size 2 (by omega) (by omega)).trans v2
            have r3 := (kh wr.heap.size 3 (by omega) (by omega)).trans v3
            have r4 := (kh wr.heap.size 4 (by omega) (by omega)).trans v4
            have r5 := (kh wr.heap.size 5 (by omega) (by omega)).trans v5
            have o0' := (kh wd.heap.size 0 (by omega) (by omega)).trans q0
            have o1' := (kh wd.heap.size 1 (by omega) (by omega)).trans q1
            have o2' := (kh wd.heap.size 2 (by omega) (by omega)).trans q2
            have o3' := (kh wd.heap.size 3 (by omega) (by omega)).trans q3
            have o4' := (kh wd.heap.size 4 (by omega) (by omega)).trans q4
            have o5' := (kh wd.heap.size 5 (by omega) (by omega)).trans q5
            have ht0 := chain_le (t := t) (n := m) HE1m.out k (by omega) 0 (by omega)
            have HCh : Hid (CIn w W3 (zE G (T i) g t (k + 1)) zh) := HCg.out.spoil hbi2 (by omega) fun b h1 h2 => by
              have hkk := HE1m.out k hkl
              rcases h2 with h2 | h2 | h2
              · exact ⟨.inl h2, by omega⟩
              · exact ⟨.inr (.inl h2), by omega⟩
              · exact ⟨.inr (.inr (by omega)), by omega⟩
            have hkl2 : (Ex.mk kd4 pl4 nm4 it4 dn4 ad4 cap4 l4).lies zh := lies_inR (lo := Wc.heap.size) (hi := wd.heap.size) (fun x h1 h2 => ((hbi2.block x (by omega) (by omega)).trans (HBi.out.block x (by omega) (by omega))).trans (hbz9.out.block x (by omega))) HKo.out.inR HKl.out
            have Q3 := places_calls _ E (Ex.mk kd4 pl4 nm4 it4 dn4 ad4 cap4 l4) (Nat.le_refl _) HEz.out (like_symm HKo.out.like) zh (lies_below HCh.out.below _ HEl.out) hkl2
            have hEv2 : E.val = .agg #[.int .u8 kd1, .int .i64 pl1, .string nm1, .int .i64 it1, .int .i64 dn1, .slice ad1 l1.length cap1] := by rw [HEe.out]; rfl
            have hKv2 : (Ex.mk kd4 pl4 nm4 it4 dn4 ad4 cap4 l4).val = .agg #[.int .u8 kd4, .int .i64 pl4, .string nm4, .int .i64 it4, .int .i64 dn4, .slice ad4 l4.length cap4] := rfl
            rw [hEv2, hKv2] at Q3
            clear Q2 kh hbi2 hkl2 hEv2 hKv2 v0 v1 v2 v3 v4 v5 v12 v13 v15 v16 v17 v18 v19 v20 v21 q0 q1 q2 q3 q4 q5
            go_wp2_with fail
            refine Q3.mono ?_
            rintro x zi ⟨rfl, hbi3⟩
            have HCi : Hid (CIn w W3 (zE G (T i) g t (k + 1)) zi) := HCh.out.grow hbi3
            clear Q3 hbi3 r0 r1 r2 r3 r4 r5 o0' o1' o2' o3' o4' o5'
            go_wp2_with fail
            go_roundw
            case rel => exact ⟨k + 1, by omega, by go_num, HCi⟩
            case measure => simp [intOf]; omega
          · obtain rfl : k = m := by omega
            have HCn : Hid (CIn w W3 (zN G T (i + 1)) wr) := HC.out.imp fun b _ h => by
              have := HTm.out
              rcases h with h | h
              · exact .inl h
              · exact .inr (.inr (by omega))
            go_wp2_with fail
            go_roundw
            case rel => exact ⟨i + 1, by omega, by go_num, HCn⟩
            case measure => simp [intOf]; omega
      · have C2 := CA.out wr HC.out.below
        have HBW : Hid (Below w.heap.size w wr) := HC.out.below
        go_wp2_with fail
        refine C2.mono ?_
        rintro x w6 ⟨rfl, hb6⟩
        have HB6 : Hid (Below w.heap.size w w6) := HBW.out.trans (hb6.mono HBW.out.size)
        clear C2 hb6
        go_wp2_with fail
        go_ret
        exact ⟨rfl, HB6.out⟩
  · have C2 := CA.out w1 (toW.out _ K1)
    have HBW : Hid (Below w.heap.size w w1) := toW.out _ K1
    go_wp2_with fail
    refine C2.mono ?_
    rintro x w2 ⟨rfl, hb2⟩
    have HB2 : Hid (Below w.heap.size w w2) := HBW.out.trans (hb2.mono HBW.out.size)
    clear C2 hb2
    go_wp2_with fail
    go_ret
    exact ⟨rfl, HB2.out⟩
end Go.Proofs.YthbjagmlcemefaaDoor
namespace Go.Proofs.YthbjagmlcemefaaDoor.treeCopies
open Go.ChangeShapes Go.WideShapes Go.ChangeAt Go.RowKit
open Ex.size Ex.depth Ex.lies Ex.bulk Ex.good
set_option maxRecDepth 100000 in
theorem contract (H : Type) (enc : TypeId × Value → H) (W : World) (base : Nat) (args : Array Value) (ds gs : List (DataW H)) (before : List MemPlace)
    (hval : ∀ (j : Nat) t v, Tryd.f5.params[j]? = some t → args[j]? = some v → Value.okWide Tryd.prog W .any base t v)
    (hW : DataW.Whole enc Tryd.prog Tryd.f5.params.toList Rows.treeCopiesSpec.vars false W args.toList ds gs before) (hL : laidMetH Tryd.prog Rows.treeCopiesUptoRow.laid W) (hbk : Rows.uptoSmall H (ds ++ gs) = true) :
    Calls Tryd.prog 5 args W fun e W' => ∃ v, e = .returned v ∧ Rows.treeCopiesSpec.post enc Tryd.prog Tryd.f5 false true false false W args v W' := by
  have hW' := hW
  obtain ⟨p, q, hA0, hV, rfl, hfz, hnd⟩ := hW
  have hA : DataW.TrodAll enc Tryd.prog W 0 (fun _ => true) true Tryd.f5.params.toList args.toList ds p := hA0
  rw [Tryd.params5] at hA hval
  obtain ⟨v0, vs0, d0, ds0, p0, q0, hargs, rfl, rfl, h0, r0⟩ := trodAll_cons hA
  obtain ⟨rfl, rfl, rfl⟩ := trodAll_nil r0
  obtain rfl : args = #[v0] := by cases args; simp_all
  obtain ⟨rfl, rfl⟩ := trodVars_none hV
  have hbulk : Rows.uptoBulk d0 ≤ 1048576 := by
    have h := of_decide_eq_true hbk
    simp only [List.append_nil, Rows.uptoBulkAll] at h
    omega
  obtain ⟨a, l, cap, rfl, hl, hg⟩ := open_prog (hval 0 25 v0 rfl rfl) h0 hbulk
  clear hA0
  simp only [List.append_nil] at hW'
  have hlt : ∀ x ∈ p0, x.block < W.heap.size := fun x hx => hW'.lt x hx
  refine (copies_walk l a cap hg W hl (tab_of hL)).mono fun r W' ⟨hr, hbl⟩ => ?_
  subst hr
  exact ⟨_, rfl, _, _, _, [], p0, [], hW', trodAll_mk1 (shut_bool Tryd.underlying4 _), by
    have := trodAll_cons_mk (Below.trod (enc := enc) seatLaid (by kernel_rfl) (of_decide_eq_true (by kernel_rfl)) h0 hbl hlt) (trodAll_mk0 (enc := enc))
    rw [List.append_nil] at this
    exact this, rfl, hbl.frame _, fun h => by cases h⟩
theorem laid_met (os : Os) : laidMet Tryd.prog Rows.treeCopiesUptoRow.laid ((World.doorLaid Tryd.prog 400 os).forCall (fun _ _ => 0) ⟨#[], #[.agg #[.slice none 0 0]], []⟩).memory :=
  laidMet_of_run' 8 (by kernel_rfl) (by kernel_rfl)
theorem reads (os : Os) {H : Type} (enc : TypeId × Value → H) : ∃ places, DataW.whole enc Tryd.prog ((World.doorLaid Tryd.prog 400 os).forCall (fun _ _ => 0) ⟨#[], #[.agg #[.slice none 0 0]], []⟩).memory Tryd.f5.params.toList Rows.treeCopiesSpec.vars false #[Value.agg #[.slice none 0 0]].toList 8 = some ([.agg [.nil]], [], places) :=
  ⟨[], by kernel_rfl⟩
set_option maxRecDepth 100000 in
theorem lifted (os : Os) (started : os.Started) (H : Type) (enc : TypeId × Value → H) (F : Stop.Interp) :
    ReturnsInHanded {} Tryd.checked os 5 .any ((Rows.OpenSpec.upto Rows.treeCopiesSpec).preRow enc Tryd.prog Tryd.f5 Rows.treeCopiesUptoRow.domain false Rows.treeCopiesUptoRow.laid) (((Rows.OpenSpec.upto Rows.treeCopiesSpec).at F).post enc Tryd.prog Tryd.f5 false true false false) := by
  obtain ⟨places, hx⟩ := reads os enc
  refine returnsInHanded_of_row (C := Tryd.checked) (s := Rows.OpenSpec.upto Rows.treeCopiesSpec) seatOwn started (by kernel_rfl) Tryd.func5
    (witness_row_at (enc := enc) (C := Tryd.checked) false (World.doorLaid Tryd.prog 400 os) #[.agg #[.slice none 0 0]] rfl (by kernel_rfl) (by kernel_rfl) (by kernel_rfl)
      (OpenSpec.preRow_of_cond 8 hx (by kernel_rfl) (fun k hk => by cases hk; kernel_rfl) (by kernel_rfl) (laid_met os))) ?_
  intro W base args ds gs before hval hW _ hcond _ hL _ _
  exact contract H enc W base args ds gs before hval hW hL (hcond _ rfl)
theorem over : Rows.TreeCopiesUptoSaid :=
  OpenClaim.holds_of_cond 5 Tryd.f5 rfl rfl rfl rfl rfl rfl rfl ⟨rfl, rfl, rfl, rfl, rfl⟩ rfl rfl rfl rfl rfl (by kernel_rfl) Tryd.func5 (by kernel_rfl)
    (of_decide_eq_true (by kernel_rfl)) (by unfold Func.isWrapper; first | (rw [if_pos (by decide +kernel)]; kernel_rfl) | (rw [if_neg (by decide +kernel)]; exact ⟨rfl, rfl⟩))
    (fun os started H enc _ F => by rw [OpenClaim.pre_eq_preRow]; exact lifted os started H enc F)
theorem plain (f : FuncId) (fn : Func) (hf : Tryd.pinned.checked.prog.funcNamed "carillon/carillonlaw04.TreeCopies" = some f) (hfn : Tryd.pinned.checked.prog.funcs[f]? = some fn) :
    false = Tryd.pinned.checked.prog.looks [] ∧ ∀ (j : Nat) t, fn.params[j]? = some t → Tryd.pinned.checked.prog.wantsStandIn t = false := by
  obtain rfl : f = 5 := Option.some.inj ((show Tryd.prog.funcNamed "carillon/carillonlaw04.TreeCopies" = some 5 by kernel_rfl).symm.trans hf) |>.symm
  obtain rfl : fn = Tryd.f5 := (Option.some.inj (Tryd.func5.symm.trans hfn)).symm
  refine ⟨by kernel_rfl, fun j t ht => ?_⟩
  rw [Tryd.params5] at ht
  obtain rfl : t = 25 := by simpa using Array.mem_of_getElem? ht
  exact (show Tryd.prog.wantsStandIn 25 = false by kernel_rfl)
end Go.Proofs.YthbjagmlcemefaaDoor.treeCopies
namespace Go.Proofs.YthbjagmlcemefaaDoor
theorem treeCopies_holds : Rows.TreeCopiesUptoCardSaid :=
  Claim7.holds_tied_plain_at .later [] _ _ _ _ treeCopies.over (fun _ h => by cases h) (by kernel_rfl) (fun _ h => by cases h) treeCopiesUpto_row_tie rfl ⟨rfl, rfl⟩ (by kernel_rfl) rfl treeCopies.plain (by kernel_rfl)
#print axioms treeCopies_holds
end Go.Proofs.YthbjagmlcemefaaDoor
