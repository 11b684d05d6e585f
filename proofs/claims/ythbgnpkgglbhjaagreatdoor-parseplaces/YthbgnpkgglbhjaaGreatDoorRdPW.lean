/- Layer 6's statement ParsePlaces: its function expr, at a tree that stands in the source. -/
import Derived.Test.YthbgnpkgglbhjaaGreatDoorRdPlainB
import Derived.Test.YthbgnpkgglbhjaaGreatDoorRdMay
import Derived.Deep.RegionHeld3
import Derived.Test.YthbgnpkgglbhjaaGreatDoorRdWholes
import Derived.Deep.RegionLaw
namespace Go.Proofs.YthbgnpkgglbhjaaGreatDoor
open Go.RowKit
open Ex.size Ex.depth Ex.lies Ex.bulk Ex.good Ex.bare Ex.stands
attribute [local go_sem] later_size later_cell later_frozen later_setCell later_drew later_drewN later_tape drewN_setCell drewN_alloc drewN_later later_later lt_more lt_more1 lt_more2 lt_more3 lt_more4 lk0_0_1 lk1_0_1 lk2_0_1 lk0_0_2 lk1_0_2 lk2_0_2 lk0_1_2 lk0_0_3 lk1_0_3 lk2_0_3 lk0_1_3 lk0_2_3 lk0_0_4 lk1_0_4 lk2_0_4 lk0_1_4 lk0_2_4 lk0_3_4 lk0_0_5 lk1_0_5 lk2_0_5 lk0_1_5 lk0_2_5 lk0_3_5 lk0_4_5 lk0_0_6 lk1_0_6 lk2_0_6 lk0_1_6 lk0_2_6 lk0_3_6 lk0_4_6 lk0_5_6 lk0_0_7 lk1_0_7 lk2_0_7 lk0_1_7 lk0_2_7 lk0_3_7 lk0_4_7 lk0_5_7 lk0_6_7
theorem allStand_get {s : ByteArray} {pl : Int} : ∀ {l : List Ex}, allStand s pl l → ∀ (i : Nat) (h : i < l.length), pl ≤ l[i].pl ∧ l[i].stands s
  | [], _, _, h => absurd h (Nat.not_lt_zero _)
  | _ :: _, h, 0, _ => ⟨h.1, h.2.1⟩
  | _ :: _, h, i + 1, hi => allStand_get h.2.2 i (Nat.lt_of_succ_lt_succ hi)
theorem wrapI (n : Int) : IntKind.i64.wrap n = (n + 9223372036854775808) % 18446744073709551616 - 9223372036854775808 := by
  simp [IntKind.wrap, IntKind.signed, IntKind.bits]
  try omega
set_option maxRecDepth 100000 in
set_option maxHeartbeats 3200000 in
theorem lawExpr_calls (s : ByteArray) (hs : s.size ≤ 4096) (m : Nat) : ∀ (e : Ex), e.size ≤ m → e.bulk ≤ 1048576 → e.stands s → ∀ w, e.lies w → Calls Tryz.prog 20 #[e.val, .string s] w fun x w' => x = .returned (.bool true) ∧ Below w.heap.size w w' := by
  induction m with
  | zero => intro e h; have := size_pos e; omega
  | succ m ih =>
    intro e hm hbulk hst w hl
    obtain ⟨kd, pl, nm, it, dn, a, cap, l⟩ := e
    obtain ⟨b, o, hla, hlie⟩ := hl
    obtain ⟨⟨hp0, hp1⟩, hnm, hdg, hargs⟩ := hst
    obtain ⟨q, rfl⟩ : ∃ q : Nat, pl = q := ⟨pl.toNat, by omega⟩
    rw [Int.toNat_natCast] at hnm hdg
    obtain ⟨n, hn⟩ : ∃ n, n = l.length := ⟨_, rfl⟩
    have HM : Hid (1 + sizes l ≤ m + 1) := hm
    have HG : Hid (1 + nm.size + bulks l ≤ 1048576) := hbulk
    have hnb : n ≤ 1048576 := by have h1 := len_sizes l; have h2 := sizes_bulk l; have := HG.out; omega
    have hnz : nm.size ≤ 1048576 := by have := HG.out; omega
    simp only [Ex.val, Ex.cells, List.toArray]
    rw [← hn]
    have HN : Hid (n = l.length) := hn
    have HLA : Hid _ := hla
    have HLie : Hid _ := hlie
    have HIH : Hid _ := ih
    have HArgs : Hid (allStand s q l) := hargs
    obtain ⟨W0, hW0⟩ : ∃ W0 : World, W0 = w.alloc (.cells #[.int .u8 kd, .int .i64 q, .string nm, .int .i64 it, .int .i64 dn, .slice a n cap] 27) := ⟨_, rfl⟩
    have HB0 : Hid (Below w.heap.size w W0) := by rw [Hid, hW0]; exact (Below.refl _ _).alloc (Nat.le_refl _) _
    have hs0 : w.heap.size < W0.heap.size := by rw [hW0]; simp
    have z0 : W0.cell? ⟨w.heap.size, 0, none⟩ = some (.int .u8 kd) := by rw [hW0]; exact (World.cell?_alloc_at _ _ _ _ rfl).trans (by simp)
    have z1 : W0.cell? ⟨w.heap.size, 1, none⟩ = some (.int .i64 q) := by rw [hW0]; exact (World.cell?_alloc_at _ _ _ _ rfl).trans (by simp)
    have z2 : W0.cell? ⟨w.heap.size, 2, none⟩ = some (.string nm) := by rw [hW0]; exact (World.cell?_alloc_at _ _ _ _ rfl).trans (by simp)
    have z3 : W0.cell? ⟨w.heap.size, 3, none⟩ = some (.int .i64 it) := by rw [hW0]; exact (World.cell?_alloc_at _ _ _ _ rfl).trans (by simp)
    have z4 : W0.cell? ⟨w.heap.size, 4, none⟩ = some (.int .i64 dn) := by rw [hW0]; exact (World.cell?_alloc_at _ _ _ _ rfl).trans (by simp)
    have z5 : W0.cell? ⟨w.heap.size, 5, none⟩ = some (.slice a n cap) := by rw [hW0]; exact (World.cell?_alloc_at _ _ _ _ rfl).trans (by simp)
    have HW0 : Hid (w.alloc (.cells #[.int .u8 kd, .int .i64 q, .string nm, .int .i64 it, .int .i64 dn, .slice a n cap] 27) = W0) := hW0.symm
    clear hW0
    have hq0 : ¬ (q : Int) < 0 := by omega
    have hq1 : ¬ (s.size : Int) ≤ (q : Int) := by omega
    clear hn hla hlie ih hargs hm hbulk hp0
    by_cases hk1 : kd = 1
    · subst hk1
      obtain ⟨hn1, hn2⟩ := hnm (.inl rfl)
      have hw1 : IntKind.i64.wrap ((q : Int) + (nm.size : Int)) = (q : Int) + (nm.size : Int) := by
        have h1 : (nm.size : Int) ≤ 1048576 := by omega
        have h2 : (q : Int) < 4096 := by omega
        rw [wrapI]
        omega
      have hw2 : decide ((s.size : Int) < (q : Int) + (nm.size : Int)) = false := decide_eq_false (by omega)
      have hw3 : (q : Int) + (nm.size : Int) ≤ (s.size : Int) := by omega
      go_enter Tryz.func20, Tryz.ntmps20
      go_wp2_with fail
      rw [HW0.out]
      go_region
      go_wp2_with fail
      clear hw1 hw2 hw3 hn1 hn2 hnm hdg
      have hbx1 : W0.drew.cell? ⟨w.heap.size, 1, none⟩ = some (.int .i64 q) := z1
      have hbx5 : W0.drew.cell? ⟨w.heap.size, 5, none⟩ = some (.slice a n cap) := z5
      have hsd : w.heap.size < W0.drew.heap.size := hs0
      have HBD : Hid (Below w.heap.size w W0.drew) := HB0.out.drew
      go_loopw [5] (fun i wr => ∃ k : Nat, k ≤ n ∧ i = .int .i64 k ∧ wr.cell? ⟨w.heap.size, 1, none⟩ = some (.int .i64 q) ∧ wr.cell? ⟨w.heap.size, 5, none⟩ = some (.slice a n cap) ∧ w.heap.size < wr.heap.size ∧ Hid (Below w.heap.size w wr)) (fun i _ => n - (intOf i).toNat)
      case atStart => exact ⟨0, by omega, rfl, hbx1, hbx5, hsd, HBD⟩
      case round =>
        clear hbx1 hbx5 hsd HBD z0 z1 z2 z3 z4 z5 hs0
        obtain ⟨k, hk, rfl, hq, hbox, hsz, HB⟩ := hrel
        by_cases hlt : k < n
        · have hkl : k < l.length := by rw [← HN.out]; exact hlt
          obtain rfl := HLA.out (by intro h; rw [h] at hkl; simp at hkl)
          obtain ⟨hc, hli⟩ := lieAt_get l o k HLie.out hkl
          have hs3 := size_arg hkl
          have hb3 := bulk_arg hkl
          obtain ⟨hpl, hst⟩ := allStand_get HArgs.out k hkl
          have hblk : b < w.heap.size := by
            have h0 := hc 0 (by omega)
            cases hx : l[k]
            rw [hx] at h0
            exact World.block_lt_of_cell? w ⟨b, _, none⟩ h0
          have hcr : ∀ j, j < 6 → wr.cell? ⟨b, o + k * 6 + j, none⟩ = l[k].cells[j]? := fun j hj => (HB.out.cell (p := ⟨b, o + k * 6 + j, none⟩) hblk).trans (hc j hj)
          have CC := fun W (hW : Below w.heap.size w W) => HIH.out l[k] (by have := HM.out; omega) (by have := HG.out; omega) hst W (lies_below hW _ hli)
          generalize l[k] = y at hcr CC hpl
          obtain ⟨kd1, pl1, nm1, it1, dn1, a1, cap1, l1⟩ := y
          have c0 : wr.cell? ⟨b, o + k * 6, none⟩ = some (.int .u8 kd1) := hcr 0 (by omega)
          have c1 : wr.cell? ⟨b, o + k * 6 + 1, none⟩ = some (.int .i64 pl1) := hcr 1 (by omega)
          have c2 : wr.cell? ⟨b, o + k * 6 + 2, none⟩ = some (.string nm1) := hcr 2 (by omega)
          have c3 : wr.cell? ⟨b, o + k * 6 + 3, none⟩ = some (.int .i64 it1) := hcr 3 (by omega)
          have c4 : wr.cell? ⟨b, o + k * 6 + 4, none⟩ = some (.int .i64 dn1) := hcr 4 (by omega)
          have c5 : wr.cell? ⟨b, o + k * 6 + 5, none⟩ = some (.slice a1 l1.length cap1) := hcr 5 (by omega)
          have hpl0 : (q : Int) ≤ pl1 := hpl
          have hpl1 : decide (pl1 < (q : Int)) = false := decide_eq_false (by omega)
          simp only [Ex.val, Ex.cells, List.toArray] at CC
          clear hc hcr hli hs3 hb3 hkl hpl hst
          have i0 : (0 : Int) ≤ (k : Int) := by omega
          have i1 : (k : Int) < (n : Int) := by omega
          have hb0 : b < wr.heap.size := by omega
          have HBd : Hid (Below w.heap.size w wr.drew) := Below.drew HB.out
          go_wp2_with fail
          go_region_held3 (fun w' => w'.cell? ⟨w.heap.size, 1, none⟩ = some (.int .i64 q) ∧ w'.cell? ⟨w.heap.size, 5, none⟩ = some (.slice (some ⟨b, o, none⟩) n cap) ∧ w'.cell? ⟨b, o + k * 6, none⟩ = some (.int .u8 kd1) ∧ w'.cell? ⟨b, o + k * 6 + 1, none⟩ = some (.int .i64 pl1) ∧ w'.cell? ⟨b, o + k * 6 + 2, none⟩ = some (.string nm1) ∧ w'.cell? ⟨b, o + k * 6 + 3, none⟩ = some (.int .i64 it1) ∧ w'.cell? ⟨b, o + k * 6 + 4, none⟩ = some (.int .i64 dn1) ∧ w'.cell? ⟨b, o + k * 6 + 5, none⟩ = some (.slice a1 l1.length cap1)) (go_simp) (first | (go_at_call 20; refine (CC _ HBd.out).mono ?_; rintro r w2 ⟨rfl, hb2⟩; have hold : ∀ b o, b < wr.heap.size → w2.cell? ⟨b, o, none⟩ = wr.cell? ⟨b, o, none⟩ := fun b o h => hb2.cell (p := ⟨b, o, none⟩) h))
          have HB2 : Hid (Below w.heap.size w w2) := HBd.out.trans (hb2.mono (by show w.heap.size ≤ wr.heap.size; omega))
          have hq2 : w2.cell? ⟨w.heap.size, 1, none⟩ = some (.int .i64 q) := (hb2.cell (p := ⟨w.heap.size, 1, none⟩) hsz).trans hq
          have hbox2 : w2.cell? ⟨w.heap.size, 5, none⟩ = some (.slice (some ⟨b, o, none⟩) n cap) := (hb2.cell (p := ⟨w.heap.size, 5, none⟩) hsz).trans hbox
          have hsz2 : w.heap.size < w2.heap.size := by
            have : wr.heap.size ≤ w2.heap.size := hb2.size
            omega
          clear hb2 hold CC c0 c1 c2 c3 c4 c5 hq hbox hsz HB hb0 HBd hpl0 hpl1
          go_wp2_with fail
          go_roundw
          case rel => exact ⟨k + 1, by omega, by go_num, hq2, hbox2, hsz2, HB2⟩
          case measure => simp [intOf]; omega
        · go_wp2_with fail
          go_ret
          exact ⟨rfl, HB.out⟩

    by_cases hk4 : kd = 4
    · subst hk4
      obtain ⟨hn1, hn2⟩ := hnm (.inr rfl)
      have hw1 : IntKind.i64.wrap ((q : Int) + (nm.size : Int)) = (q : Int) + (nm.size : Int) := by
        have h1 : (nm.size : Int) ≤ 1048576 := by omega
        have h2 : (q : Int) < 4096 := by omega
        rw [wrapI]
        omega
      have hw2 : decide ((s.size : Int) < (q : Int) + (nm.size : Int)) = false := decide_eq_false (by omega)
      have hw3 : (q : Int) + (nm.size : Int) ≤ (s.size : Int) := by omega
      go_enter Tryz.func20, Tryz.ntmps20
      go_wp2_with fail
      rw [HW0.out]
      go_region
      go_wp2_with fail
      clear hw1 hw2 hw3 hn1 hn2 hnm hdg
      have hbx1 : W0.drew.cell? ⟨w.heap.size, 1, none⟩ = some (.int .i64 q) := z1
      have hbx5 : W0.drew.cell? ⟨w.heap.size, 5, none⟩ = some (.slice a n cap) := z5
      have hsd : w.heap.size < W0.drew.heap.size := hs0
      have HBD : Hid (Below w.heap.size w W0.drew) := HB0.out.drew
      go_loopw [5] (fun i wr => ∃ k : Nat, k ≤ n ∧ i = .int .i64 k ∧ wr.cell? ⟨w.heap.size, 1, none⟩ = some (.int .i64 q) ∧ wr.cell? ⟨w.heap.size, 5, none⟩ = some (.slice a n cap) ∧ w.heap.size < wr.heap.size ∧ Hid (Below w.heap.size w wr)) (fun i _ => n - (intOf i).toNat)
      case atStart => exact ⟨0, by omega, rfl, hbx1, hbx5, hsd, HBD⟩
      case round =>
        clear hbx1 hbx5 hsd HBD z0 z1 z2 z3 z4 z5 hs0
        obtain ⟨k, hk, rfl, hq, hbox, hsz, HB⟩ := hrel
        by_cases hlt : k < n
        · have hkl : k < l.length := by rw [← HN.out]; exact hlt
          obtain rfl := HLA.out (by intro h; rw [h] at hkl; simp at hkl)
          obtain ⟨hc, hli⟩ := lieAt_get l o k HLie.out hkl
          have hs3 := size_arg hkl
          have hb3 := bulk_arg hkl
          obtain ⟨hpl, hst⟩ := allStand_get HArgs.out k hkl
          have hblk : b < w.heap.size := by
            have h0 := hc 0 (by omega)
            cases hx : l[k]
            rw [hx] at h0
            exact World.block_lt_of_cell? w ⟨b, _, none⟩ h0
          have hcr : ∀ j, j < 6 → wr.cell? ⟨b, o + k * 6 + j, none⟩ = l[k].cells[j]? := fun j hj => (HB.out.cell (p := ⟨b, o + k * 6 + j, none⟩) hblk).trans (hc j hj)
          have CC := fun W (hW : Below w.heap.size w W) => HIH.out l[k] (by have := HM.out; omega) (by have := HG.out; omega) hst W (lies_below hW _ hli)
          generalize l[k] = y at hcr CC hpl
          obtain ⟨kd1, pl1, nm1, it1, dn1, a1, cap1, l1⟩ := y
          have c0 : wr.cell? ⟨b, o + k * 6, none⟩ = some (.int .u8 kd1) := hcr 0 (by omega)
          have c1 : wr.cell? ⟨b, o + k * 6 + 1, none⟩ = some (.int .i64 pl1) := hcr 1 (by omega)
          have c2 : wr.cell? ⟨b, o + k * 6 + 2, none⟩ = some (.string nm1) := hcr 2 (by omega)
          have c3 : wr.cell? ⟨b, o + k * 6 + 3, none⟩ = some (.int .i64 it1) := hcr 3 (by omega)
          have c4 : wr.cell? ⟨b, o + k * 6 + 4, none⟩ = some (.int .i64 dn1) := hcr 4 (by omega)
          have c5 : wr.cell? ⟨b, o + k * 6 + 5, none⟩ = some (.slice a1 l1.length cap1) := hcr 5 (by omega)
          have hpl0 : (q : Int) ≤ pl1 := hpl
          have hpl1 : decide (pl1 < (q : Int)) = false := decide_eq_false (by omega)
          simp only [Ex.val, Ex.cells, List.toArray] at CC
          clear hc hcr hli hs3 hb3 hkl hpl hst
          have i0 : (0 : Int) ≤ (k : Int) := by omega
          have i1 : (k : Int) < (n : Int) := by omega
          have hb0 : b < wr.heap.size := by omega
          have HBd : Hid (Below w.heap.size w wr.drew) := Below.drew HB.out
          go_wp2_with fail
          go_region_held3 (fun w' => w'.cell? ⟨w.heap.size, 1, none⟩ = some (.int .i64 q) ∧ w'.cell? ⟨w.heap.size, 5, none⟩ = some (.slice (some ⟨b, o, none⟩) n cap) ∧ w'.cell? ⟨b, o + k * 6, none⟩ = some (.int .u8 kd1) ∧ w'.cell? ⟨b, o + k * 6 + 1, none⟩ = some (.int .i64 pl1) ∧ w'.cell? ⟨b, o + k * 6 + 2, none⟩ = some (.string nm1) ∧ w'.cell? ⟨b, o + k * 6 + 3, none⟩ = some (.int .i64 it1) ∧ w'.cell? ⟨b, o + k * 6 + 4, none⟩ = some (.int .i64 dn1) ∧ w'.cell? ⟨b, o + k * 6 + 5, none⟩ = some (.slice a1 l1.length cap1)) (go_simp) (first | (go_at_call 20; refine (CC _ HBd.out).mono ?_; rintro r w2 ⟨rfl, hb2⟩; have hold : ∀ b o, b < wr.heap.size → w2.cell? ⟨b, o, none⟩ = wr.cell? ⟨b, o, none⟩ := fun b o h => hb2.cell (p := ⟨b, o, none⟩) h))
          have HB2 : Hid (Below w.heap.size w w2) := HBd.out.trans (hb2.mono (by show w.heap.size ≤ wr.heap.size; omega))
          have hq2 : w2.cell? ⟨w.heap.size, 1, none⟩ = some (.int .i64 q) := (hb2.cell (p := ⟨w.heap.size, 1, none⟩) hsz).trans hq
          have hbox2 : w2.cell? ⟨w.heap.size, 5, none⟩ = some (.slice (some ⟨b, o, none⟩) n cap) := (hb2.cell (p := ⟨w.heap.size, 5, none⟩) hsz).trans hbox
          have hsz2 : w.heap.size < w2.heap.size := by
            have : wr.heap.size ≤ w2.heap.size := hb2.size
            omega
          clear hb2 hold CC c0 c1 c2 c3 c4 c5 hq hbox hsz HB hb0 HBd hpl0 hpl1
          go_wp2_with fail
          go_roundw
          case rel => exact ⟨k + 1, by omega, by go_num, hq2, hbox2, hsz2, HB2⟩
          case measure => simp [intOf]; omega
        · go_wp2_with fail
          go_ret
          exact ⟨rfl, HB.out⟩

    by_cases hk2 : kd = 2
    · subst hk2
      have hd := hdg rfl
      have hqn : q < s.size := by omega
      rw [byteAt_lt hqn] at hd
      simp only [digitB, decide_eq_true_eq] at hd
      obtain ⟨hd3, hd4⟩ := hd
      have hd5 : decide ((s[q].toNat : Int) < 48) = false := decide_eq_false (by omega)
      have hd6 : decide ((57 : Int) < (s[q].toNat : Int)) = false := decide_eq_false (by omega)
      clear hnm hdg hk1 hk4
      go_enter Tryz.func20, Tryz.ntmps20
      go_wp2_with fail
      rw [HW0.out]
      go_region
      go_wp2_with fail
      clear hd3 hd4 hd5 hd6
      have hbx1 : W0.drew.cell? ⟨w.heap.size, 1, none⟩ = some (.int .i64 q) := z1
      have hbx5 : W0.drew.cell? ⟨w.heap.size, 5, none⟩ = some (.slice a n cap) := z5
      have hsd : w.heap.size < W0.drew.heap.size := hs0
      have HBD : Hid (Below w.heap.size w W0.drew) := HB0.out.drew
      go_loopw [5] (fun i wr => ∃ k : Nat, k ≤ n ∧ i = .int .i64 k ∧ wr.cell? ⟨w.heap.size, 1, none⟩ = some (.int .i64 q) ∧ wr.cell? ⟨w.heap.size, 5, none⟩ = some (.slice a n cap) ∧ w.heap.size < wr.heap.size ∧ Hid (Below w.heap.size w wr)) (fun i _ => n - (intOf i).toNat)
      case atStart => exact ⟨0, by omega, rfl, hbx1, hbx5, hsd, HBD⟩
      case round =>
        clear hbx1 hbx5 hsd HBD z0 z1 z2 z3 z4 z5 hs0
        obtain ⟨k, hk, rfl, hq, hbox, hsz, HB⟩ := hrel
        by_cases hlt : k < n
        · have hkl : k < l.length := by rw [← HN.out]; exact hlt
          obtain rfl := HLA.out (by intro h; rw [h] at hkl; simp at hkl)
          obtain ⟨hc, hli⟩ := lieAt_get l o k HLie.out hkl
          have hs3 := size_arg hkl
          have hb3 := bulk_arg hkl
          obtain ⟨hpl, hst⟩ := allStand_get HArgs.out k hkl
          have hblk : b < w.heap.size := by
            have h0 := hc 0 (by omega)
            cases hx : l[k]
            rw [hx] at h0
            exact World.block_lt_of_cell? w ⟨b, _, none⟩ h0
          have hcr : ∀ j, j < 6 → wr.cell? ⟨b, o + k * 6 + j, none⟩ = l[k].cells[j]? := fun j hj => (HB.out.cell (p := ⟨b, o + k * 6 + j, none⟩) hblk).trans (hc j hj)
          have CC := fun W (hW : Below w.heap.size w W) => HIH.out l[k] (by have := HM.out; omega) (by have := HG.out; omega) hst W (lies_below hW _ hli)
          generalize l[k] = y at hcr CC hpl
          obtain ⟨kd1, pl1, nm1, it1, dn1, a1, cap1, l1⟩ := y
          have c0 : wr.cell? ⟨b, o + k * 6, none⟩ = some (.int .u8 kd1) := hcr 0 (by omega)
          have c1 : wr.cell? ⟨b, o + k * 6 + 1, none⟩ = some (.int .i64 pl1) := hcr 1 (by omega)
          have c2 : wr.cell? ⟨b, o + k * 6 + 2, none⟩ = some (.string nm1) := hcr 2 (by omega)
          have c3 : wr.cell? ⟨b, o + k * 6 + 3, none⟩ = some (.int .i64 it1) := hcr 3 (by omega)
          have c4 : wr.cell? ⟨b, o + k * 6 + 4, none⟩ = some (.int .i64 dn1) := hcr 4 (by omega)
          have c5 : wr.cell? ⟨b, o + k * 6 + 5, none⟩ = some (.slice a1 l1.length cap1) := hcr 5 (by omega)
          have hpl0 : (q : Int) ≤ pl1 := hpl
          have hpl1 : decide (pl1 < (q : Int)) = false := decide_eq_false (by omega)
          simp only [Ex.val, Ex.cells, List.toArray] at CC
          clear hc hcr hli hs3 hb3 hkl hpl hst
          have i0 : (0 : Int) ≤ (k : Int) := by omega
          have i1 : (k : Int) < (n : Int) := by omega
          have hb0 : b < wr.heap.size := by omega
          have HBd : Hid (Below w.heap.size w wr.drew) := Below.drew HB.out
          go_wp2_with fail
          go_region_held3 (fun w' => w'.cell? ⟨w.heap.size, 1, none⟩ = some (.int .i64 q) ∧ w'.cell? ⟨w.heap.size, 5, none⟩ = some (.slice (some ⟨b, o, none⟩) n cap) ∧ w'.cell? ⟨b, o + k * 6, none⟩ = some (.int .u8 kd1) ∧ w'.cell? ⟨b, o + k * 6 + 1, none⟩ = some (.int .i64 pl1) ∧ w'.cell? ⟨b, o + k * 6 + 2, none⟩ = some (.string nm1) ∧ w'.cell? ⟨b, o + k * 6 + 3, none⟩ = some (.int .i64 it1) ∧ w'.cell? ⟨b, o + k * 6 + 4, none⟩ = some (.int .i64 dn1) ∧ w'.cell? ⟨b, o + k * 6 + 5, none⟩ = some (.slice a1 l1.length cap1)) (go_simp) (first | (go_at_call 20; refine (CC _ HBd.out).mono ?_; rintro r w2 ⟨rfl, hb2⟩; have hold : ∀ b o, b < wr.heap.size → w2.cell? ⟨b, o, none⟩ = wr.cell? ⟨b, o, none⟩ := fun b o h => hb2.cell (p := ⟨b, o, none⟩) h))
          have HB2 : Hid (Below w.heap.size w w2) := HBd.out.trans (hb2.mono (by show w.heap.size ≤ wr.heap.size; omega))
          have hq2 : w2.cell? ⟨w.heap.size, 1, none⟩ = some (.int .i64 q) := (hb2.cell (p := ⟨w.heap.size, 1, none⟩) hsz).trans hq
          have hbox2 : w2.cell? ⟨w.heap.size, 5, none⟩ = some (.slice (some ⟨b, o, none⟩) n cap) := (hb2.cell (p := ⟨w.heap.size, 5, none⟩) hsz).trans hbox
          have hsz2 : w.heap.size < w2.heap.size := by
            have : wr.heap.size ≤ w2.heap.size := hb2.size
            omega
          clear hb2 hold CC c0 c1 c2 c3 c4 c5 hq hbox hsz HB hb0 HBd hpl0 hpl1
          go_wp2_with fail
          go_roundw
          case rel => exact ⟨k + 1, by omega, by go_num, hq2, hbox2, hsz2, HB2⟩
          case measure => simp [intOf]; omega
        · go_wp2_with fail
          go_ret
          exact ⟨rfl, HB.out⟩

    have hb1 : (kd == 1) = false := beq_false_of_ne hk1
    have hb4 : (kd == 4) = false := beq_false_of_ne hk4
    have hb2 : (kd == 2) = false := beq_false_of_ne hk2
    clear hnm hdg hk1 hk4 hk2
    go_enter Tryz.func20, Tryz.ntmps20
    go_wp2_with fail
    rw [HW0.out]
    go_region
    go_wp2_with fail
    have hbx1 : W0.drew.cell? ⟨w.heap.size, 1, none⟩ = some (.int .i64 q) := z1
    have hbx5 : W0.drew.cell? ⟨w.heap.size, 5, none⟩ = some (.slice a n cap) := z5
    have hsd : w.heap.size < W0.drew.heap.size := hs0
    have HBD : Hid (Below w.heap.size w W0.drew) := HB0.out.drew
    go_loopw [5] (fun i wr => ∃ k : Nat, k ≤ n ∧ i = .int .i64 k ∧ wr.cell? ⟨w.heap.size, 1, none⟩ = some (.int .i64 q) ∧ wr.cell? ⟨w.heap.size, 5, none⟩ = some (.slice a n cap) ∧ w.heap.size < wr.heap.size ∧ Hid (Below w.heap.size w wr)) (fun i _ => n - (intOf i).toNat)
    case atStart => exact ⟨0, by omega, rfl, hbx1, hbx5, hsd, HBD⟩
    case round =>
      clear hbx1 hbx5 hsd HBD z0 z1 z2 z3 z4 z5 hs0
      obtain ⟨k, hk, rfl, hq, hbox, hsz, HB⟩ := hrel
      by_cases hlt : k < n
      · have hkl : k < l.length := by rw [← HN.out]; exact hlt
        obtain rfl := HLA.out (by intro h; rw [h] at hkl; simp at hkl)
        obtain ⟨hc, hli⟩ := lieAt_get l o k HLie.out hkl
        have hs3 := size_arg hkl
        have hb3 := bulk_arg hkl
        obtain ⟨hpl, hst⟩ := allStand_get HArgs.out k hkl
        have hblk : b < w.heap.size := by
          have h0 := hc 0 (by omega)
          cases hx : l[k]
          rw [hx] at h0
          exact World.block_lt_of_cell? w ⟨b, _, none⟩ h0
        have hcr : ∀ j, j < 6 → wr.cell? ⟨b, o + k * 6 + j, none⟩ = l[k].cells[j]? := fun j hj => (HB.out.cell (p := ⟨b, o + k * 6 + j, none⟩) hblk).trans (hc j hj)
        have CC := fun W (hW : Below w.heap.size w W) => HIH.out l[k] (by have := HM.out; omega) (by have := HG.out; omega) hst W (lies_below hW _ hli)
        generalize l[k] = y at hcr CC hpl
        obtain ⟨kd1, pl1, nm1, it1, dn1, a1, cap1, l1⟩ := y
        have c0 : wr.cell? ⟨b, o + k * 6, none⟩ = some (.int .u8 kd1) := hcr 0 (by omega)
        have c1 : wr.cell? ⟨b, o + k * 6 + 1, none⟩ = some (.int .i64 pl1) := hcr 1 (by omega)
        have c2 : wr.cell? ⟨b, o + k * 6 + 2, none⟩ = some (.string nm1) := hcr 2 (by omega)
        have c3 : wr.cell? ⟨b, o + k * 6 + 3, none⟩ = some (.int .i64 it1) := hcr 3 (by omega)
        have c4 : wr.cell? ⟨b, o + k * 6 + 4, none⟩ = some (.int .i64 dn1) := hcr 4 (by omega)
        have c5 : wr.cell? ⟨b, o + k * 6 + 5, none⟩ = some (.slice a1 l1.length cap1) := hcr 5 (by omega)
        have hpl0 : (q : Int) ≤ pl1 := hpl
        have hpl1 : decide (pl1 < (q : Int)) = false := decide_eq_false (by omega)
        simp only [Ex.val, Ex.cells, List.toArray] at CC
        clear hc hcr hli hs3 hb3 hkl hpl hst
        have i0 : (0 : Int) ≤ (k : Int) := by omega
        have i1 : (k : Int) < (n : Int) := by omega
        have hb0 : b < wr.heap.size := by omega
        have HBd : Hid (Below w.heap.size w wr.drew) := Below.drew HB.out
        go_wp2_with fail
        go_region_held3 (fun w' => w'.cell? ⟨w.heap.size, 1, none⟩ = some (.int .i64 q) ∧ w'.cell? ⟨w.heap.size, 5, none⟩ = some (.slice (some ⟨b, o, none⟩) n cap) ∧ w'.cell? ⟨b, o + k * 6, none⟩ = some (.int .u8 kd1) ∧ w'.cell? ⟨b, o + k * 6 + 1, none⟩ = some (.int .i64 pl1) ∧ w'.cell? ⟨b, o + k * 6 + 2, none⟩ = some (.string nm1) ∧ w'.cell? ⟨b, o + k * 6 + 3, none⟩ = some (.int .i64 it1) ∧ w'.cell? ⟨b, o + k * 6 + 4, none⟩ = some (.int .i64 dn1) ∧ w'.cell? ⟨b, o + k * 6 + 5, none⟩ = some (.slice a1 l1.length cap1)) (go_simp) (first | (go_at_call 20; refine (CC _ HBd.out).mono ?_; rintro r w2 ⟨rfl, hb2⟩; have hold : ∀ b o, b < wr.heap.size → w2.cell? ⟨b, o, none⟩ = wr.cell? ⟨b, o, none⟩ := fun b o h => hb2.cell (p := ⟨b, o, none⟩) h))
        have HB2 : Hid (Below w.heap.size w w2) := HBd.out.trans (hb2.mono (by show w.heap.size ≤ wr.heap.size; omega))
        have hq2 : w2.cell? ⟨w.heap.size, 1, none⟩ = some (.int .i64 q) := (hb2.cell (p := ⟨w.heap.size, 1, none⟩) hsz).trans hq
        have hbox2 : w2.cell? ⟨w.heap.size, 5, none⟩ = some (.slice (some ⟨b, o, none⟩) n cap) := (hb2.cell (p := ⟨w.heap.size, 5, none⟩) hsz).trans hbox
        have hsz2 : w.heap.size < w2.heap.size := by
          have : wr.heap.size ≤ w2.heap.size := hb2.size
          omega
        clear hb2 hold CC c0 c1 c2 c3 c4 c5 hq hbox hsz HB hb0 HBd hpl0 hpl1
        go_wp2_with fail
        go_roundw
        case rel => exact ⟨k + 1, by omega, by go_num, hq2, hbox2, hsz2, HB2⟩
        case measure => simp [intOf]; omega
      · go_wp2_with fail
        go_ret
        exact ⟨rfl, HB.out⟩
end Go.Proofs.YthbgnpkgglbhjaaGreatDoor
/- What a source is read as stands in it; places in memory are no matter. -/
namespace Go.Proofs.YthbgnpkgglbhjaaGreatDoor
open Go.RowKit
open Ex.size Ex.depth Ex.lies Ex.bulk Ex.good Ex.bare Ex.stands
theorem bare_pl : ∀ e : Ex, e.bare.pl = e.pl
  | .mk _ _ _ _ _ _ _ _ => rfl
theorem bare_stands (s : ByteArray) : ∀ e : Ex, e.bare.stands s → e.stands s
  | .mk kd pl nm it dn a c l, h => by
    simp only [Ex.bare, Ex.stands] at h ⊢
    exact ⟨h.1, h.2.1, h.2.2.1, all pl l h.2.2.2⟩
where all (pl : Int) : ∀ l : List Ex, allStand s pl (bares l) → allStand s pl l
  | [], _ => trivial
  | e :: r, h => by
    simp only [bares, allStand] at h ⊢
    exact ⟨by rw [← bare_pl e]; exact h.1, bare_stands s e h.2.1, all pl r h.2.2⟩
theorem nd_bare_stands {s : ByteArray} {n : Nd} (h : n.bare.stands s) : n.stands s :=
  ⟨h.1, h.2.1, h.2.2.1, h.2.2.2.1, fun q hq => ⟨(h.2.2.2.2 q.bare (List.mem_map_of_mem hq)).1, bare_stands s q.e (h.2.2.2.2 q.bare (List.mem_map_of_mem hq)).2⟩⟩
/-- What a source is read as stands in it. -/
theorem prog_stands {s : ByteArray} {l : List Nd} (h : progT s = .ok l) : ∀ n ∈ l, n.stands s := by
  unfold progT readT at h
  split at h
  · cases h
  · split at h
    · cases h
    · rename_i l' ts hq
      split at h
      · cases h
      · split at h
        · cases h
        · simp only [Except.ok.injEq] at h
          subst h
          exact (nodes_hld _ 0 _ [] _ (fun x hx => (List.not_mem_nil hx).elim) (lex_src s) _ _ hq).1
end Go.Proofs.YthbgnpkgglbhjaaGreatDoor
/- Layer 6's statement ParsePlaces: its walk, where alive answers. -/
namespace Go.Proofs.YthbgnpkgglbhjaaGreatDoor
open Go.RowKit
open Ex.size Ex.depth Ex.lies Ex.bulk Ex.good Ex.bare Ex.stands
attribute [local go_sem] later_size later_cell later_frozen later_setCell later_drew later_drewN later_tape drewN_setCell drewN_alloc drewN_later later_later lt_more lt_more1 lt_more2 lt_more3 lt_more4 lk0_0_1 lk1_0_1 lk2_0_1 lk0_0_2 lk1_0_2 lk2_0_2 lk0_1_2 lk0_0_3 lk1_0_3 lk2_0_3 lk0_1_3 lk0_2_3 lk0_0_4 lk1_0_4 lk2_0_4 lk0_1_4 lk0_2_4 lk0_3_4 lk0_0_5 lk1_0_5 lk2_0_5 lk0_1_5 lk0_2_5 lk0_3_5 lk0_4_5 lk0_0_6 lk1_0_6 lk2_0_6 lk0_1_6 lk0_2_6 lk0_3_6 lk0_4_6 lk0_5_6 lk0_0_7 lk1_0_7 lk2_0_7 lk0_1_7 lk0_2_7 lk0_3_7 lk0_4_7 lk0_5_7 lk0_6_7
theorem prog_bulks {s : ByteArray} {l : List Nd} (h : progT s = .ok l) : ndBulks l ≤ 1048576 := by
  unfold progT readT at h
  split at h
  · cases h
  · rename_i he
    split at h
    · cases h
    · rename_i l' ts hq
      split at h
      · cases h
      · split at h
        · cases h
        · simp only [Except.ok.injEq] at h
          subst h
          exact Nat.le_trans (whole_bulks hq) (Nat.le_trans (lex_ends s (by omega)).2 (by decide))
set_option maxRecDepth 100000 in
set_option maxHeartbeats 6400000 in
theorem places_walk (s : ByteArray) (w : World) (hr : RangeVar w) (ht : HasTab w) (hg : w.cell? ⟨0, 0, none⟩ = some (.iface 131 (.agg #[.pointer (some ⟨7, 40, none⟩)])))
    (ha : ∀ W, Below w.heap.size w W → Calls Tryz.prog 9 #[] W fun x w' => x = .returned (.bool true) ∧ Below W.heap.size W w') :
    Calls Tryz.prog 6 #[.string s] w fun x w' => x = .returned (.bool true) ∧ Below w.heap.size w w' := by
  have HA : Hid (∀ W, Below w.heap.size w W → Calls Tryz.prog 9 #[] W fun x w' => x = .returned (.bool true) ∧ Below W.heap.size W w') := ha
  have HCP : Hid (s.size ≤ 1048576 → Calls Tryz.prog 12 #[.string s] w (ReadPost w (progT s))) := fun hm => program_calls s w hm hr ht hg
  clear ha hr ht hg
  by_cases hz : 4096 < s.size
  · have hz2 : (4096 : Int) < (s.size : Int) := by omega
    have CA := HA.out w (Below.refl _ _)
    clear HCP
    go_enter Tryz.func6, Tryz.ntmps6
    go_wp2_with fail
    refine CA.mono ?_
    rintro x w1 ⟨rfl, hb⟩
    have HB : Hid (Below w.heap.size w w1) := hb
    clear CA hb
    go_wp2_with fail
    go_ret
    exact ⟨rfl, HB.out⟩
  · have hz2 : ¬ (4096 : Int) < (s.size : Int) := by omega
    have CP := HCP.out (by omega)
    clear HCP
    have HStand : Hid (∀ l, progT s = .ok l → ∀ n ∈ l, n.stands s) := fun l h => prog_stands h
    have HBulk : Hid (∀ l, progT s = .ok l → ndBulks l ≤ 1048576) := fun l h => prog_bulks h
    generalize progT s = res at CP HStand HBulk
    go_enter Tryz.func6, Tryz.ntmps6
    go_wp2_with fail
    refine CP.mono ?_
    rintro x w1 ⟨hb1, h1⟩
    have HB1 : Hid (Below w.heap.size w w1) := hb1
    cases res with
    | error er =>
      obtain ⟨why, kk, ee⟩ := er
      obtain rfl : x = _ := h1
      have hb2 : Below w.heap.size w (w1.alloc (.cells #[.slice none 0 0] 24)) := hb1.alloc hb1.size _
      have CA := HA.out _ hb2
      have HB2 : Hid _ := hb2
      clear CP hb1 hb2
      go_wp2_with fail
      refine CA.mono ?_
      rintro x w2 ⟨rfl, hb⟩
      have HB3 : Hid (Below w.heap.size w w2) := HB2.out.trans (hb.mono HB2.out.size)
      clear CA hb
      go_wp2_with fail
      go_ret
      exact ⟨rfl, HB3.out⟩
    | ok l =>
      obtain ⟨v, rfl, xs, a, cap, hx, rfl, hrow⟩ := h1
      obtain ⟨n, hn⟩ : ∃ n, n = xs.length := ⟨_, rfl⟩
      have HN : Hid (n = xs.length) := hn
      have hn1 : n ≤ 100001 := by rw [hn]; exact hrow.2.2.1
      have HRow : Hid (RowQ eltN (fun k => w.heap.size ≤ k) w1 a cap xs) := hrow
      have HSt : Hid (∀ y ∈ xs, y.stands s) := fun y hy => nd_bare_stands (HStand.out l rfl y.bare (by rw [← hx]; exact List.mem_map_of_mem hy))
      have HBk : Hid (∀ y ∈ xs, eqBulks y.eqs ≤ 1048576) := fun y hy => Nat.le_trans (ndBulks_mem hy) (by rw [← ndBulks_bare, hx]; exact HBulk.out l rfl)
      rw [← hn]
      clear CP hb1 hx hrow HStand HBulk hn hz
      obtain ⟨w2, hw2⟩ : ∃ w2 : World, w2 = w1.alloc (.cells #[.slice a n cap] 24) := ⟨_, rfl⟩
      have HB2 : Hid (Below w1.heap.size w1 w2) := by rw [Hid, hw2]; exact (Below.refl _ _).alloc (Nat.le_refl _) _
      have hp0 : w2.cell? ⟨w1.heap.size, 0, none⟩ = some (.slice a n cap) := by rw [hw2]; exact World.cell?_alloc_at _ _ _ _ rfl
      have hp1 : w1.heap.size < w2.heap.size := by rw [hw2]; simp
      have HW2 : Hid (w1.alloc (.cells #[.slice a n cap] 24) = w2) := hw2.symm
      clear hw2
      go_wp2_with fail
      rw [HW2.out]
      go_loopw [5] (fun i wr => ∃ k : Nat, k ≤ n ∧ i = .int .i64 k ∧ wr.cell? ⟨w1.heap.size, 0, none⟩ = some (.slice a n cap) ∧ w1.heap.size < wr.heap.size ∧ Hid (Below w1.heap.size w1 wr)) (fun i _ => n - (intOf i).toNat)
      case atStart => exact ⟨0, by omega, rfl, hp0, hp1, HB2⟩
      case round =>
        clear hp0 hp1 HB2
        obtain ⟨k, hk, rfl, hbox, hsz, HB⟩ := hrel
        by_cases hlt : k < n
        · have hkl : k < xs.length := by rw [← HN.out]; exact hlt
          obtain ⟨g, rfl, -, hgl, hc⟩ := HRow.out.2.2.2.1 (by intro h; rw [h] at hkl; simp at hkl)
          have hcr : ∀ j, j < 7 → wr.cell? ⟨g, k * 7 + j, none⟩ = xs[k].cells[j]? := fun j hj => (HB.out.cell (p := ⟨g, k * 7 + j, none⟩) hgl).trans (hc k hkl j hj)
          have hst := HSt.out xs[k] (List.getElem_mem hkl)
          have hlies := HRow.out.2.2.2.2 xs[k] (List.getElem_mem hkl)
          have hbk := HBk.out xs[k] (List.getElem_mem hkl)
          generalize xs[k] = y at hcr hst hlies hbk
          obtain ⟨fl, nm, pl, ia, ic, ins, oa, oc, outs, va, vc, vars, qa, qc, eqs⟩ := y
          obtain ⟨h0, h4, hword, hins, heqs⟩ := hst
          obtain ⟨q, rfl⟩ : ∃ q : Nat, pl = q := ⟨pl.toNat, by simp only at h0; omega⟩
          simp only [Int.toNat_natCast] at h4 hword
          have c0 : wr.cell? ⟨g, k * 7, none⟩ = some (.bool fl) := hcr 0 (by omega)
          have c1 : wr.cell? ⟨g, k * 7 + 1, none⟩ = some (.string nm) := hcr 1 (by omega)
          have c2 : wr.cell? ⟨g, k * 7 + 2, none⟩ = some (.int .i64 q) := hcr 2 (by omega)
          have c3 : wr.cell? ⟨g, k * 7 + 3, none⟩ = some (.slice ia ins.length ic) := hcr 3 (by omega)
          have c4 : wr.cell? ⟨g, k * 7 + 4, none⟩ = some (.slice oa outs.length oc) := hcr 4 (by omega)
          have c5 : wr.cell? ⟨g, k * 7 + 5, none⟩ = some (.slice va vars.length vc) := hcr 5 (by omega)
          have c6 : wr.cell? ⟨g, k * 7 + 6, none⟩ = some (.slice qa eqs.length qc) := hcr 6 (by omega)
          have HIns : Hid (RowQ eltP (fun k => w.heap.size ≤ k) w1 ia ic ins ∧ ∀ p ∈ ins, p.stands s) := ⟨hlies.1, hins⟩
          have HBe : Hid (eqBulks eqs ≤ 1048576) := hbk
          have HEqs : Hid (RowQ eltQ (fun k => w.heap.size ≤ k) w1 qa qc eqs ∧ ∀ p ∈ eqs, (q : Int) < p.pq ∧ p.e.stands s) := ⟨hlies.2.2.2.1, heqs⟩
          have i0 : (0 : Int) ≤ (k : Int) := by omega
          have i1 : (k : Int) < (n : Int) := by omega
          have hgw : g < wr.heap.size := Nat.lt_of_lt_of_le hgl HB.out.size
          have hw1 : IntKind.i64.wrap ((q : Int) + 4) = (q : Int) + 4 := by
            have h2 : (q : Int) < 4096 := by omega
            rw [wrapI]
            omega
          clear hbk
          have hw2 : decide ((s.size : Int) < (q : Int) + 4) = false := decide_eq_false (by omega)
          have hw3 : (q : Int) + 4 ≤ (s.size : Int) := by omega
          clear hcr hlies hins heqs hc hkl
          rcases hword with hword | hword
          · go_wp2_with fail
            clear hw1 hw2 hw3 hword c0 c1 c2 c3 c4 c5 c6 h4
            obtain ⟨ni, hni⟩ : ∃ ni, ni = ins.length := ⟨_, rfl⟩
            obtain ⟨nq, hnq⟩ : ∃ nq, nq = eqs.length := ⟨_, rfl⟩
            have HNi : Hid (ni = ins.length) := hni
            have HNq : Hid (nq = eqs.length) := hnq
            have hi1 : ni ≤ 100001 := by rw [hni]; exact HIns.out.1.2.2.1
            have hq1 : nq ≤ 100001 := by rw [hnq]; exact HEqs.out.1.2.2.1
            rw [← hni, ← hnq]
            clear hni hnq
            obtain ⟨w3, hw3⟩ : ∃ w3 : World, w3 = wr.alloc (.cells #[.bool fl, .string nm, .int .i64 q, .slice ia ni ic, .slice oa outs.length oc, .slice va vars.length vc, .slice qa nq qc] 60) := ⟨_, rfl⟩
            have hb3 : Below wr.heap.size wr w3 := by rw [hw3]; exact (Below.refl _ _).alloc (Nat.le_refl _) _
            have HB3 : Hid (Below w1.heap.size w1 w3) := HB.out.trans (hb3.mono HB.out.size)
            have hbox3 : w3.cell? ⟨w1.heap.size, 0, none⟩ = some (.slice (some ⟨g, 0, none⟩) n cap) := (hb3.cell (p := ⟨w1.heap.size, 0, none⟩) hsz).trans hbox
            have y2 : w3.cell? ⟨wr.heap.size, 2, none⟩ = some (.int .i64 q) := by rw [hw3]; exact (World.cell?_alloc_at _ _ _ _ rfl).trans (by simp)
            have y3 : w3.cell? ⟨wr.heap.size, 3, none⟩ = some (.slice ia ni ic) := by rw [hw3]; exact (World.cell?_alloc_at _ _ _ _ rfl).trans (by simp)
            have y6 : w3.cell? ⟨wr.heap.size, 6, none⟩ = some (.slice qa nq qc) := by rw [hw3]; exact (World.cell?_alloc_at _ _ _ _ rfl).trans (by simp)
            have hs3 : wr.heap.size < w3.heap.size := by rw [hw3]; simp
            rw [← hw3]
            clear hw3 hb3
            obtain ⟨N, hN⟩ : ∃ N, N = wr.heap.size := ⟨_, rfl⟩
            rw [← hN]
            rw [← hN] at y2 y3 y6 hs3
            have hPN : w1.heap.size < N := by rw [hN]; exact hsz
            clear hN hbox HB hsz hgw
            go_loopw [7] (fun i wi => ∃ j : Nat, j ≤ ni ∧ i = .int .i64 j ∧ wi.cell? ⟨w1.heap.size, 0, none⟩ = some (.slice (some ⟨g, 0, none⟩) n cap) ∧ wi.cell? ⟨N, 2, none⟩ = some (.int .i64 q) ∧ wi.cell? ⟨N, 3, none⟩ = some (.slice ia ni ic) ∧ wi.cell? ⟨N, 6, none⟩ = some (.slice qa nq qc) ∧ N < wi.heap.size ∧ Hid (Below w1.heap.size w1 wi)) (fun i _ => ni - (intOf i).toNat)
            case atStart => exact ⟨0, by omega, rfl, hbox3, y2, y3, y6, hs3, HB3⟩
            case round =>
              clear hbox3 y2 y3 y6 hs3 HB3
              obtain ⟨j, hj, rfl, hbox, y2, y3, y6, hsi, HB⟩ := hrel
              by_cases hji : j < ni
              · have hjl : j < ins.length := by rw [← HNi.out]; exact hji
                obtain ⟨gi, rfl, -, hgil, hci⟩ := HIns.out.1.2.2.2.1 (by intro h; rw [h] at hjl; simp at hjl)
                have hcr : ∀ t, t < 7 → wr.cell? ⟨gi, j * 7 + t, none⟩ = ins[j].cells[t]? := fun t ht => (HB.out.cell (p := ⟨gi, j * 7 + t, none⟩) hgil).trans (hci j hjl t ht)
                have hps := HIns.out.2 ins[j] (List.getElem_mem hjl)
                have hpf : ins[j].fine := HIns.out.1.2.2.2.2 ins[j] (List.getElem_mem hjl)
                generalize ins[j] = y at hcr hps hpf
                obtain ⟨xn, xt, xp, xr, xd, xs', xu⟩ := y
                obtain ⟨e0, e1, e2⟩ := hps
                have e3 : xn.size ≤ 1000000 := hpf.1
                obtain ⟨xq, rfl⟩ : ∃ xq : Nat, xp = xq := ⟨xp.toNat, by simp only at e0; omega⟩
                simp only [Int.toNat_natCast] at e1 e2
                have c0 : wr.cell? ⟨gi, j * 7, none⟩ = some (.string xn) := hcr 0 (by omega)
                have c1 : wr.cell? ⟨gi, j * 7 + 1, none⟩ = some (.int .u8 xt) := hcr 1 (by omega)
                have c2 : wr.cell? ⟨gi, j * 7 + 2, none⟩ = some (.int .i64 xq) := hcr 2 (by omega)
                have c3 : wr.cell? ⟨gi, j * 7 + 3, none⟩ = some (.bool xr) := hcr 3 (by omega)
                have c4 : wr.cell? ⟨gi, j * 7 + 4, none⟩ = some (.int .i64 xd) := hcr 4 (by omega)
                have c5 : wr.cell? ⟨gi, j * 7 + 5, none⟩ = some (.int .i64 xs') := hcr 5 (by omega)
                have c6 : wr.cell? ⟨gi, j * 7 + 6, none⟩ = some (.int .i64 xu) := hcr 6 (by omega)
                have k0 : (0 : Int) ≤ (j : Int) := by omega
                have k1 : (j : Int) < (ni : Int) := by omega
                have hgiw : gi < wr.heap.size := Nat.lt_of_lt_of_le hgil HB.out.size
                have hw1 : IntKind.i64.wrap ((xq : Int) + (xn.size : Int)) = (xq : Int) + (xn.size : Int) := by
                  have h1 : (xn.size : Int) ≤ 1048576 := by omega
                  have h2 : (xq : Int) ≤ 4096 := by omega
                  rw [wrapI]
                  omega
                have hw2 : decide ((s.size : Int) < (xq : Int) + (xn.size : Int)) = false := decide_eq_false (by omega)
                have hw3 : (xq : Int) + (xn.size : Int) ≤ (s.size : Int) := by omega
                clear hcr hpf hci hjl
                go_wp2_with fail
                obtain ⟨w4, hw4⟩ : ∃ w4 : World, w4 = wr.alloc (.cells #[.string xn, .int .u8 xt, .int .i64 xq, .bool xr, .int .i64 xd, .int .i64 xs', .int .i64 xu] 62) := ⟨_, rfl⟩
                have hb4 : Below wr.heap.size wr w4 := by rw [hw4]; exact (Below.refl _ _).alloc (Nat.le_refl _) _
                have x0 : w4.cell? ⟨wr.heap.size, 0, none⟩ = some (.string xn) := by rw [hw4]; exact (World.cell?_alloc_at _ _ _ _ rfl).trans (by simp)
                have x2 : w4.cell? ⟨wr.heap.size, 2, none⟩ = some (.int .i64 xq) := by rw [hw4]; exact (World.cell?_alloc_at _ _ _ _ rfl).trans (by simp)
                have hbox4 : w4.drew.cell? ⟨w1.heap.size, 0, none⟩ = some (.slice (some ⟨g, 0, none⟩) n cap) := (hb4.cell (p := ⟨w1.heap.size, 0, none⟩) (show w1.heap.size < wr.heap.size by omega)).trans hbox
                have v2 : w4.drew.cell? ⟨N, 2, none⟩ = some (.int .i64 q) := (hb4.cell (p := ⟨N, 2, none⟩) hsi).trans y2
                have v3 : w4.drew.cell? ⟨N, 3, none⟩ = some (.slice (some ⟨gi, 0, none⟩) ni ic) := (hb4.cell (p := ⟨N, 3, none⟩) hsi).trans y3
                have v6 : w4.drew.cell? ⟨N, 6, none⟩ = some (.slice qa nq qc) := (hb4.cell (p := ⟨N, 6, none⟩) hsi).trans y6
                have hs4 : N < w4.drew.heap.size := Nat.lt_of_lt_of_le hsi hb4.size
                have HB4 : Hid (Below w1.heap.size w1 w4.drew) := Below.drew (HB.out.trans (hb4.mono HB.out.size))
                rw [← hw4]
                clear hw4 hbox y2 y3 y6 HB c0 c1 c2 c3 c4 c5 c6 hb4
                obtain ⟨X, hX⟩ : ∃ X, X = wr.heap.size := ⟨_, rfl⟩
                rw [← hX]
                rw [← hX] at x0 x2
                clear hX hsi hgiw
                go_region
                go_wp2_with fail
                go_roundw
                case rel => exact ⟨j + 1, by omega, by go_num, hbox4, v2, v3, v6, hs4, HB4⟩
                case measure => simp [intOf]; omega
              · go_wp2_with fail
                go_loopw [9] (fun i wi => ∃ j : Nat, j ≤ nq ∧ i = .int .i64 j ∧ wi.cell? ⟨w1.heap.size, 0, none⟩ = some (.slice (some ⟨g, 0, none⟩) n cap) ∧ wi.cell? ⟨N, 2, none⟩ = some (.int .i64 q) ∧ wi.cell? ⟨N, 6, none⟩ = some (.slice qa nq qc) ∧ N < wi.heap.size ∧ Hid (Below w1.heap.size w1 wi)) (fun i _ => nq - (intOf i).toNat)
                case atStart => exact ⟨0, by omega, rfl, hbox, y2, y6, hsi, HB⟩
                case round =>
                  clear hbox y2 y3 y6 hsi HB
                  obtain ⟨j, hj, rfl, hbox, y2, y6, hsi, HB⟩ := hrel
                  by_cases hji : j < nq
                  · have hjl : j < eqs.length := by rw [← HNq.out]; exact hji
                    obtain ⟨gq, rfl, -, hgql, hcq⟩ := HEqs.out.1.2.2.2.1 (by intro h; rw [h] at hjl; simp at hjl)
                    have hcr : ∀ t, t < 8 → wr.cell? ⟨gq, j * 8 + t, none⟩ = eqs[j].cells[t]? := fun t ht => (HB.out.cell (p := ⟨gq, j * 8 + t, none⟩) hgql).trans (hcq j hjl t ht)
                    have hqs := HEqs.out.2 eqs[j] (List.getElem_mem hjl)
                    have hql := (eq_lies (HEqs.out.1.2.2.2.2 eqs[j] (List.getElem_mem hjl))).2
                    have hqb := Nat.le_trans (eqBulks_mem (List.getElem_mem hjl)) HBe.out
                    have CC := fun W (hW : Below w1.heap.size w1 W) => lawExpr_calls s (by omega) eqs[j].e.size eqs[j].e (Nat.le_refl _) hqb hqs.2 W (lies_below hW _ hql)
                    have hqa := hqs.1
                    generalize eqs[j] = y at hcr CC hqa
                    obtain ⟨na, nc, ns, pq, ⟨kd1, pl1, nm1, it1, dn1, a1, cap1, l1⟩⟩ := y
                    have c1 : wr.cell? ⟨gq, j * 8 + 1, none⟩ = some (.int .i64 pq) := hcr 1 (by omega)
                    have c2 : wr.cell? ⟨gq, j * 8 + 2, none⟩ = some (.int .u8 kd1) := hcr 2 (by omega)
                    have c3 : wr.cell? ⟨gq, j * 8 + 3, none⟩ = some (.int .i64 pl1) := hcr 3 (by omega)
                    have c4 : wr.cell? ⟨gq, j * 8 + 4, none⟩ = some (.string nm1) := hcr 4 (by omega)
                    have c5 : wr.cell? ⟨gq, j * 8 + 5, none⟩ = some (.int .i64 it1) := hcr 5 (by omega)
                    have c6 : wr.cell? ⟨gq, j * 8 + 6, none⟩ = some (.int .i64 dn1) := hcr 6 (by omega)
                    have c7 : wr.cell? ⟨gq, j * 8 + 7, none⟩ = some (.slice a1 l1.length cap1) := hcr 7 (by omega)
                    have hqa0 : (q : Int) < pq := hqa
                    have hqa1 : decide (pq ≤ (q : Int)) = false := decide_eq_false (by omega)
                    simp only [Ex.val, Ex.cells, List.toArray] at CC
                    have k0 : (0 : Int) ≤ (j : Int) := by omega
                    have k1 : (j : Int) < (nq : Int) := by omega
                    have hgqw : gq < wr.heap.size := Nat.lt_of_lt_of_le hgql HB.out.size
                    have HBd : Hid (Below w1.heap.size w1 wr.drew) := Below.drew HB.out
                    clear hcr hqs hql hqb hcq hjl hqa
                    go_wp2_with fail
                    go_region_held3 (fun w' => w'.cell? ⟨N, 2, none⟩ = some (.int .i64 q) ∧ w'.cell? ⟨N, 6, none⟩ = some (.slice (some ⟨gq, 0, none⟩) nq qc) ∧ w'.cell? ⟨gq, j * 8 + 1, none⟩ = some (.int .i64 pq) ∧ w'.cell? ⟨gq, j * 8 + 2, none⟩ = some (.int .u8 kd1) ∧ w'.cell? ⟨gq, j * 8 + 3, none⟩ = some (.int .i64 pl1) ∧ w'.cell? ⟨gq, j * 8 + 4, none⟩ = some (.string nm1) ∧ w'.cell? ⟨gq, j * 8 + 5, none⟩ = some (.int .i64 it1) ∧ w'.cell? ⟨gq, j * 8 + 6, none⟩ = some (.int .i64 dn1) ∧ w'.cell? ⟨gq, j * 8 + 7, none⟩ = some (.slice a1 l1.length cap1)) (go_simp) (first | (go_at_call 20; refine (CC _ HBd.out).mono ?_; rintro r w5 ⟨rfl, hb5⟩; have hold : ∀ b o, b < wr.heap.size → w5.cell? ⟨b, o, none⟩ = wr.cell? ⟨b, o, none⟩ := fun b o h => hb5.cell (p := ⟨b, o, none⟩) h))
                    have HB5 : Hid (Below w1.heap.size w1 w5) := HBd.out.trans (hb5.mono (by show w1.heap.size ≤ wr.heap.size; omega))
                    have hbox5 : w5.cell? ⟨w1.heap.size, 0, none⟩ = some (.slice (some ⟨g, 0, none⟩) n cap) := (hb5.cell (p := ⟨w1.heap.size, 0, none⟩) (show w1.heap.size < wr.heap.size by omega)).trans hbox
                    have v2 : w5.cell? ⟨N, 2, none⟩ = some (.int .i64 q) := (hb5.cell (p := ⟨N, 2, none⟩) hsi).trans y2
                    have v6 : w5.cell? ⟨N, 6, none⟩ = some (.slice (some ⟨gq, 0, none⟩) nq qc) := (hb5.cell (p := ⟨N, 6, none⟩) hsi).trans y6
                    have hs5 : N < w5.heap.size := Nat.lt_of_lt_of_le hsi hb5.size
                    clear hb5 hold CC c1 c2 c3 c4 c5 c6 c7 hbox y2 y6 hsi HB hgqw HBd
                    go_wp2_with fail
                    go_roundw
                    case rel => exact ⟨j + 1, by omega, by go_num, hbox5, v2, v6, hs5, HB5⟩
                    case measure => simp [intOf]; omega
                  · go_wp2_with fail
                    go_roundw
                    case rel => exact ⟨k + 1, by omega, by go_num, hbox, by omega, HB⟩
                    case measure => simp [intOf]; omega
          · go_wp2_with fail
            clear hw1 hw2 hw3 hword c0 c1 c2 c3 c4 c5 c6 h4
            obtain ⟨ni, hni⟩ : ∃ ni, ni = ins.length := ⟨_, rfl⟩
            obtain ⟨nq, hnq⟩ : ∃ nq, nq = eqs.length := ⟨_, rfl⟩
            have HNi : Hid (ni = ins.length) := hni
            have HNq : Hid (nq = eqs.length) := hnq
            have hi1 : ni ≤ 100001 := by rw [hni]; exact HIns.out.1.2.2.1
            have hq1 : nq ≤ 100001 := by rw [hnq]; exact HEqs.out.1.2.2.1
            rw [← hni, ← hnq]
            clear hni hnq
            obtain ⟨w3, hw3⟩ : ∃ w3 : World, w3 = wr.alloc (.cells #[.bool fl, .string nm, .int .i64 q, .slice ia ni ic, .slice oa outs.length oc, .slice va vars.length vc, .slice qa nq qc] 60) := ⟨_, rfl⟩
            have hb3 : Below wr.heap.size wr w3 := by rw [hw3]; exact (Below.refl _ _).alloc (Nat.le_refl _) _
            have HB3 : Hid (Below w1.heap.size w1 w3) := HB.out.trans (hb3.mono HB.out.size)
            have hbox3 : w3.cell? ⟨w1.heap.size, 0, none⟩ = some (.slice (some ⟨g, 0, none⟩) n cap) := (hb3.cell (p := ⟨w1.heap.size, 0, none⟩) hsz).trans hbox
            have y2 : w3.cell? ⟨wr.heap.size, 2, none⟩ = some (.int .i64 q) := by rw [hw3]; exact (World.cell?_alloc_at _ _ _ _ rfl).trans (by simp)
            have y3 : w3.cell? ⟨wr.heap.size, 3, none⟩ = some (.slice ia ni ic) := by rw [hw3]; exact (World.cell?_alloc_at _ _ _ _ rfl).trans (by simp)
            have y6 : w3.cell? ⟨wr.heap.size, 6, none⟩ = some (.slice qa nq qc) := by rw [hw3]; exact (World.cell?_alloc_at _ _ _ _ rfl).trans (by simp)
            have hs3 : wr.heap.size < w3.heap.size := by rw [hw3]; simp
            rw [← hw3]
            clear hw3 hb3
            obtain ⟨N, hN⟩ : ∃ N, N = wr.heap.size := ⟨_, rfl⟩
            rw [← hN]
            rw [← hN] at y2 y3 y6 hs3
            have hPN : w1.heap.size < N := by rw [hN]; exact hsz
            clear hN hbox HB hsz hgw
            go_loopw [7] (fun i wi => ∃ j : Nat, j ≤ ni ∧ i = .int .i64 j ∧ wi.cell? ⟨w1.heap.size, 0, none⟩ = some (.slice (some ⟨g, 0, none⟩) n cap) ∧ wi.cell? ⟨N, 2, none⟩ = some (.int .i64 q) ∧ wi.cell? ⟨N, 3, none⟩ = some (.slice ia ni ic) ∧ wi.cell? ⟨N, 6, none⟩ = some (.slice qa nq qc) ∧ N < wi.heap.size ∧ Hid (Below w1.heap.size w1 wi)) (fun i _ => ni - (intOf i).toNat)
            case atStart => exact ⟨0, by omega, rfl, hbox3, y2, y3, y6, hs3, HB3⟩
            case round =>
              clear hbox3 y2 y3 y6 hs3 HB3
              obtain ⟨j, hj, rfl, hbox, y2, y3, y6, hsi, HB⟩ := hrel
              by_cases hji : j < ni
              · have hjl : j < ins.length := by rw [← HNi.out]; exact hji
                obtain ⟨gi, rfl, -, hgil, hci⟩ := HIns.out.1.2.2.2.1 (by intro h; rw [h] at hjl; simp at hjl)
                have hcr : ∀ t, t < 7 → wr.cell? ⟨gi, j * 7 + t, none⟩ = ins[j].cells[t]? := fun t ht => (HB.out.cell (p := ⟨gi, j * 7 + t, none⟩) hgil).trans (hci j hjl t ht)
                have hps := HIns.out.2 ins[j] (List.getElem_mem hjl)
                have hpf : ins[j].fine := HIns.out.1.2.2.2.2 ins[j] (List.getElem_mem hjl)
                generalize ins[j] = y at hcr hps hpf
                obtain ⟨xn, xt, xp, xr, xd, xs', xu⟩ := y
                obtain ⟨e0, e1, e2⟩ := hps
                have e3 : xn.size ≤ 1000000 := hpf.1
                obtain ⟨xq, rfl⟩ : ∃ xq : Nat, xp = xq := ⟨xp.toNat, by simp only at e0; omega⟩
                simp only [Int.toNat_natCast] at e1 e2
                have c0 : wr.cell? ⟨gi, j * 7, none⟩ = some (.string xn) := hcr 0 (by omega)
                have c1 : wr.cell? ⟨gi, j * 7 + 1, none⟩ = some (.int .u8 xt) := hcr 1 (by omega)
                have c2 : wr.cell? ⟨gi, j * 7 + 2, none⟩ = some (.int .i64 xq) := hcr 2 (by omega)
                have c3 : wr.cell? ⟨gi, j * 7 + 3, none⟩ = some (.bool xr) := hcr 3 (by omega)
                have c4 : wr.cell? ⟨gi, j * 7 + 4, none⟩ = some (.int .i64 xd) := hcr 4 (by omega)
                have c5 : wr.cell? ⟨gi, j * 7 + 5, none⟩ = some (.int .i64 xs') := hcr 5 (by omega)
                have c6 : wr.cell? ⟨gi, j * 7 + 6, none⟩ = some (.int .i64 xu) := hcr 6 (by omega)
                have k0 : (0 : Int) ≤ (j : Int) := by omega
                have k1 : (j : Int) < (ni : Int) := by omega
                have hgiw : gi < wr.heap.size := Nat.lt_of_lt_of_le hgil HB.out.size
                have hw1 : IntKind.i64.wrap ((xq : Int) + (xn.size : Int)) = (xq : Int) + (xn.size : Int) := by
                  have h1 : (xn.size : Int) ≤ 1048576 := by omega
                  have h2 : (xq : Int) ≤ 4096 := by omega
                  rw [wrapI]
                  omega
                have hw2 : decide ((s.size : Int) < (xq : Int) + (xn.size : Int)) = false := decide_eq_false (by omega)
                have hw3 : (xq : Int) + (xn.size : Int) ≤ (s.size : Int) := by omega
                clear hcr hpf hci hjl
                go_wp2_with fail
                obtain ⟨w4, hw4⟩ : ∃ w4 : World, w4 = wr.alloc (.cells #[.string xn, .int .u8 xt, .int .i64 xq, .bool xr, .int .i64 xd, .int .i64 xs', .int .i64 xu] 62) := ⟨_, rfl⟩
                have hb4 : Below wr.heap.size wr w4 := by rw [hw4]; exact (Below.refl _ _).alloc (Nat.le_refl _) _
                have x0 : w4.cell? ⟨wr.heap.size, 0, none⟩ = some (.string xn) := by rw [hw4]; exact (World.cell?_alloc_at _ _ _ _ rfl).trans (by simp)
                have x2 : w4.cell? ⟨wr.heap.size, 2, none⟩ = some (.int .i64 xq) := by rw [hw4]; exact (World.cell?_alloc_at _ _ _ _ rfl).trans (by simp)
                have hbox4 : w4.drew.cell? ⟨w1.heap.size, 0, none⟩ = some (.slice (some ⟨g, 0, none⟩) n cap) := (hb4.cell (p := ⟨w1.heap.size, 0, none⟩) (show w1.heap.size < wr.heap.size by omega)).trans hbox
                have v2 : w4.drew.cell? ⟨N, 2, none⟩ = some (.int .i64 q) := (hb4.cell (p := ⟨N, 2, none⟩) hsi).trans y2
                have v3 : w4.drew.cell? ⟨N, 3, none⟩ = some (.slice (some ⟨gi, 0, none⟩) ni ic) := (hb4.cell (p := ⟨N, 3, none⟩) hsi).trans y3
                have v6 : w4.drew.cell? ⟨N, 6, none⟩ = some (.slice qa nq qc) := (hb4.cell (p := ⟨N, 6, none⟩) hsi).trans y6
                have hs4 : N < w4.drew.heap.size := Nat.lt_of_lt_of_le hsi hb4.size
                have HB4 : Hid (Below w1.heap.size w1 w4.drew) := Below.drew (HB.out.trans (hb4.mono HB.out.size))
                rw [← hw4]
                clear hw4 hbox y2 y3 y6 HB c0 c1 c2 c3 c4 c5 c6 hb4
                obtain ⟨X, hX⟩ : ∃ X, X = wr.heap.size := ⟨_, rfl⟩
                rw [← hX]
                rw [← hX] at x0 x2
                clear hX hsi hgiw
                go_region
                go_wp2_with fail
                go_roundw
                case rel => exact ⟨j + 1, by omega, by go_num, hbox4, v2, v3, v6, hs4, HB4⟩
                case measure => simp [intOf]; omega
              · go_wp2_with fail
                go_loopw [9] (fun i wi => ∃ j : Nat, j ≤ nq ∧ i = .int .i64 j ∧ wi.cell? ⟨w1.heap.size, 0, none⟩ = some (.slice (some ⟨g, 0, none⟩) n cap) ∧ wi.cell? ⟨N, 2, none⟩ = some (.int .i64 q) ∧ wi.cell? ⟨N, 6, none⟩ = some (.slice qa nq qc) ∧ N < wi.heap.size ∧ Hid (Below w1.heap.size w1 wi)) (fun i _ => nq - (intOf i).toNat)
                case atStart => exact ⟨0, by omega, rfl, hbox, y2, y6, hsi, HB⟩
                case round =>
                  clear hbox y2 y3 y6 hsi HB
                  obtain ⟨j, hj, rfl, hbox, y2, y6, hsi, HB⟩ := hrel
                  by_cases hji : j < nq
                  · have hjl : j < eqs.length := by rw [← HNq.out]; exact hji
                    obtain ⟨gq, rfl, -, hgql, hcq⟩ := HEqs.out.1.2.2.2.1 (by intro h; rw [h] at hjl; simp at hjl)
                    have hcr : ∀ t, t < 8 → wr.cell? ⟨gq, j * 8 + t, none⟩ = eqs[j].cells[t]? := fun t ht => (HB.out.cell (p := ⟨gq, j * 8 + t, none⟩) hgql).trans (hcq j hjl t ht)
                    have hqs := HEqs.out.2 eqs[j] (List.getElem_mem hjl)
                    have hql := (eq_lies (HEqs.out.1.2.2.2.2 eqs[j] (List.getElem_mem hjl))).2
                    have hqb := Nat.le_trans (eqBulks_mem (List.getElem_mem hjl)) HBe.out
                    have CC := fun W (hW : Below w1.heap.size w1 W) => lawExpr_calls s (by omega) eqs[j].e.size eqs[j].e (Nat.le_refl _) hqb hqs.2 W (lies_below hW _ hql)
                    have hqa := hqs.1
                    generalize eqs[j] = y at hcr CC hqa
                    obtain ⟨na, nc, ns, pq, ⟨kd1, pl1, nm1, it1, dn1, a1, cap1, l1⟩⟩ := y
                    have c1 : wr.cell? ⟨gq, j * 8 + 1, none⟩ = some (.int .i64 pq) := hcr 1 (by omega)
                    have c2 : wr.cell? ⟨gq, j * 8 + 2, none⟩ = some (.int .u8 kd1) := hcr 2 (by omega)
                    have c3 : wr.cell? ⟨gq, j * 8 + 3, none⟩ = some (.int .i64 pl1) := hcr 3 (by omega)
                    have c4 : wr.cell? ⟨gq, j * 8 + 4, none⟩ = some (.string nm1) := hcr 4 (by omega)
                    have c5 : wr.cell? ⟨gq, j * 8 + 5, none⟩ = some (.int .i64 it1) := hcr 5 (by omega)
                    have c6 : wr.cell? ⟨gq, j * 8 + 6, none⟩ = some (.int .i64 dn1) := hcr 6 (by omega)
                    have c7 : wr.cell? ⟨gq, j * 8 + 7, none⟩ = some (.slice a1 l1.length cap1) := hcr 7 (by omega)
                    have hqa0 : (q : Int) < pq := hqa
                    have hqa1 : decide (pq ≤ (q : Int)) = false := decide_eq_false (by omega)
                    simp only [Ex.val, Ex.cells, List.toArray] at CC
                    have k0 : (0 : Int) ≤ (j : Int) := by omega
                    have k1 : (j : Int) < (nq : Int) := by omega
                    have hgqw : gq < wr.heap.size := Nat.lt_of_lt_of_le hgql HB.out.size
                    have HBd : Hid (Below w1.heap.size w1 wr.drew) := Below.drew HB.out
                    clear hcr hqs hql hqb hcq hjl hqa
                    go_wp2_with fail
                    go_region_held3 (fun w' => w'.cell? ⟨N, 2, none⟩ = some (.int .i64 q) ∧ w'.cell? ⟨N, 6, none⟩ = some (.slice (some ⟨gq, 0, none⟩) nq qc) ∧ w'.cell? ⟨gq, j * 8 + 1, none⟩ = some (.int .i64 pq) ∧ w'.cell? ⟨gq, j * 8 + 2, none⟩ = some (.int .u8 kd1) ∧ w'.cell? ⟨gq, j * 8 + 3, none⟩ = some (.int .i64 pl1) ∧ w'.cell? ⟨gq, j * 8 + 4, none⟩ = some (.string nm1) ∧ w'.cell? ⟨gq, j * 8 + 5, none⟩ = some (.int .i64 it1) ∧ w'.cell? ⟨gq, j * 8 + 6, none⟩ = some (.int .i64 dn1) ∧ w'.cell? ⟨gq, j * 8 + 7, none⟩ = some (.slice a1 l1.length cap1)) (go_simp) (first | (go_at_call 20; refine (CC _ HBd.out).mono ?_; rintro r w5 ⟨rfl, hb5⟩; have hold : ∀ b o, b < wr.heap.size → w5.cell? ⟨b, o, none⟩ = wr.cell? ⟨b, o, none⟩ := fun b o h => hb5.cell (p := ⟨b, o, none⟩) h))
                    have HB5 : Hid (Below w1.heap.size w1 w5) := HBd.out.trans (hb5.mono (by show w1.heap.size ≤ wr.heap.size; omega))
                    have hbox5 : w5.cell? ⟨w1.heap.size, 0, none⟩ = some (.slice (some ⟨g, 0, none⟩) n cap) := (hb5.cell (p := ⟨w1.heap.size, 0, none⟩) (show w1.heap.size < wr.heap.size by omega)).trans hbox
                    have v2 : w5.cell? ⟨N, 2, none⟩ = some (.int .i64 q) := (hb5.cell (p := ⟨N, 2, none⟩) hsi).trans y2
                    have v6 : w5.cell? ⟨N, 6, none⟩ = some (.slice (some ⟨gq, 0, none⟩) nq qc) := (hb5.cell (p := ⟨N, 6, none⟩) hsi).trans y6
                    have hs5 : N < w5.heap.size := Nat.lt_of_lt_of_le hsi hb5.size
                    clear hb5 hold CC c1 c2 c3 c4 c5 c6 c7 hbox y2 y6 hsi HB hgqw HBd
                    go_wp2_with fail
                    go_roundw
                    case rel => exact ⟨j + 1, by omega, by go_num, hbox5, v2, v6, hs5, HB5⟩
                    case measure => simp [intOf]; omega
                  · go_wp2_with fail
                    go_roundw
                    case rel => exact ⟨k + 1, by omega, by go_num, hbox, by omega, HB⟩
                    case measure => simp [intOf]; omega
        · have CA := HA.out wr (HB1.out.trans (HB.out.mono HB1.out.size))
          go_wp2_with fail
          refine CA.mono ?_
          rintro x w3 ⟨rfl, hb⟩
          have HB3 : Hid (Below w.heap.size w w3) := (HB1.out.trans (HB.out.mono HB1.out.size)).trans (hb.mono (HB1.out.trans (HB.out.mono HB1.out.size)).size)
          clear CA hb
          go_wp2_with fail
          go_ret
          exact ⟨rfl, HB3.out⟩
end Go.Proofs.YthbgnpkgglbhjaaGreatDoor
