/- The document's answer of layer 4: Size, Depth. -/
import Derived.Test.YtbahpbinilnfoaaDoorProg
import Derived.Test.YtbahpbinilnfoaaDoorExPlain
import Derived.WalkKit
namespace Go.Proofs.YtbahpbinilnfoaaDoor
open Go.RowKit
open Ex.size Ex.depth Ex.lies
attribute [local go_sem] later_size later_cell later_frozen later_setCell later_drew later_drewN later_tape drewN_setCell drewN_alloc drewN_later later_later lt_more lt_more1 lt_more2 lt_more3 lt_more4 lk0_0_1 lk1_0_1 lk2_0_1 lk0_0_2 lk1_0_2 lk2_0_2 lk0_1_2 lk0_0_3 lk1_0_3 lk2_0_3 lk0_1_3 lk0_2_3 lk0_0_4 lk1_0_4 lk2_0_4 lk0_1_4 lk0_2_4 lk0_3_4 lk0_0_5 lk1_0_5 lk2_0_5 lk0_1_5 lk0_2_5 lk0_3_5 lk0_4_5 lk0_0_6 lk1_0_6 lk2_0_6 lk0_1_6 lk0_2_6 lk0_3_6 lk0_4_6 lk0_5_6 lk0_0_7 lk1_0_7 lk2_0_7 lk0_1_7 lk0_2_7 lk0_3_7 lk0_4_7 lk0_5_7 lk0_6_7
theorem ret_nat {a b : Int} (h : a = b) : Ending.returned (.int .i64 a) = .returned (.int .i64 b) := by rw [h]
set_option maxRecDepth 100000 in
set_option maxHeartbeats 3200000 in
theorem size_calls (m : Nat) : ∀ (e : Ex), e.size ≤ m → e.size ≤ 1048576 → ∀ w, e.lies w → Calls Tryd.prog 27 #[e.val] w fun x w' => x = .returned (.int .i64 e.size) ∧ Below w.heap.size w w' := by
  induction m with
  | zero => intro e h; have := size_pos e; omega
  | succ m ih =>
    rintro ⟨kd, pl, nm, it, dn, a, cap, l⟩ hm hbig w ⟨b, o, hla, hlie⟩
    obtain ⟨n, hn⟩ : ∃ n, n = l.length := ⟨_, rfl⟩
    have HM : Hid (1 + sizes l ≤ m + 1) := hm
    have HG : Hid (1 + sizes l ≤ 1048576) := hbig
    have hnb : n ≤ 1048576 := by
      have : l.length ≤ sizes l := by
        clear hla hlie hn HM HG hm hbig ih
        induction l with
        | nil => simp
        | cons e r ihr => have := size_pos e; simp only [List.length_cons, sizes]; omega
      have := HG.out
      omega
    clear hm hbig
    simp only [Ex.val, Ex.cells, Ex.size, List.toArray]
    rw [← hn]
    have HN : Hid (n = l.length) := hn
    have HLA : Hid _ := hla
    have HLie : Hid _ := hlie
    have HIH : Hid _ := ih
    clear hn hla hlie ih
    go_enter Tryd.func27, Tryd.ntmps27
    go_wp2_with fail
    go_loopw [3, 4] (fun s i wr => ∃ k : Nat, k ≤ n ∧ i = .int .i64 k ∧ s = .int .i64 (1 + sizes (l.take k) : Nat) ∧ wr.cell? ⟨w.heap.size, 5, none⟩ = some (.slice a n cap) ∧ w.heap.size < wr.heap.size ∧ Hid (Below w.heap.size w wr)) (fun _ i _ => n - (intOf i).toNat)
    case atStart => exact ⟨0, by omega, rfl, by simp [sizes], by simp, by simp, (Below.refl _ _).alloc (Nat.le_refl _) _⟩
    case round =>
      obtain ⟨k, hk, rfl, rfl, hbox, hsz, HB⟩ := hrel
      by_cases hlt : k < n
      · have hkl : k < l.length := by rw [← HN.out]; exact hlt
        obtain rfl := HLA.out (by intro h; rw [h] at hkl; simp at hkl)
        obtain ⟨hc, hli⟩ := lieAt_get l o k HLie.out hkl
        have hs1 := sizes_at l k hkl
        have hs2 := sizes_take l (k + 1)
        have hs3 := size_arg hkl
        have HS : Hid (sizes (l.take (k + 1)) = sizes (l.take k) + l[k].size) := hs1
        have hblk : b < w.heap.size := by
          have h0 := hc 0 (by omega)
          cases hx : l[k]
          rw [hx] at h0
          exact World.block_lt_of_cell? w ⟨b, _, none⟩ h0
        have hcr : ∀ j, j < 6 → wr.cell? ⟨b, o + k * 6 + j, none⟩ = l[k].cells[j]? := fun j hj => (HB.out.cell (p := ⟨b, o + k * 6 + j, none⟩) hblk).trans (hc j hj)
        have CC := HIH.out l[k] (by have := HM.out; omega) (by have := HG.out; omega) wr (lies_below HB.out _ hli)
        have hbnd : sizes (l.take k) + l[k].size ≤ 1048576 := by have := HG.out; omega
        generalize l[k] = x at hcr CC HS hbnd
        obtain ⟨kd', pl', nm', it', dn', a', cap', l'⟩ := x
        have c0 : wr.cell? ⟨b, o + k * 6, none⟩ = some (.int .u8 kd') := hcr 0 (by omega)
        have c1 : wr.cell? ⟨b, o + k * 6 + 1, none⟩ = some (.int .i64 pl') := hcr 1 (by omega)
        have c2 : wr.cell? ⟨b, o + k * 6 + 2, none⟩ = some (.string nm') := hcr 2 (by omega)
        have c3 : wr.cell? ⟨b, o + k * 6 + 3, none⟩ = some (.int .i64 it') := hcr 3 (by omega)
        have c4 : wr.cell? ⟨b, o + k * 6 + 4, none⟩ = some (.int .i64 dn') := hcr 4 (by omega)
        have c5 : wr.cell? ⟨b, o + k * 6 + 5, none⟩ = some (.slice a' l'.length cap') := hcr 5 (by omega)
        simp only [Ex.val, Ex.cells, List.toArray] at CC
        generalize Ex.size (.mk kd' pl' nm' it' dn' a' cap' l') = z at CC HS hbnd
        clear hc hcr hli hs1 hs2 hs3 hblk hkl
        go_wp2_with fail
        refine CC.mono ?_
        rintro e w2 ⟨rfl, hb2⟩
        have hbox2 : w2.cell? ⟨w.heap.size, 5, none⟩ = some (.slice (some ⟨b, o, none⟩) n cap) := (hb2.cell (p := ⟨w.heap.size, 5, none⟩) hsz).trans hbox
        have hsz2 : w.heap.size < w2.heap.size := by have := hb2.size; omega
        have HB2 : Hid (Below w.heap.size w w2) := HB.out.trans (hb2.mono (by omega))
        clear CC hb2 c0 c1 c2 c3 c4 c5 hbox hsz HB
        go_wp2_with fail
        go_roundw
        case rel => exact ⟨k + 1, by omega, by go_num, by rw [HS.out]; exact congrArg (Value.int .i64) (by omega), hbox2, hsz2, HB2⟩
        case measure => simp [intOf]; omega
      · obtain rfl : k = n := by omega
        have hst : sizes (l.take k) = sizes l := by rw [HN.out, List.take_length]
        have HST : Hid _ := hst
        clear hst
        go_wp2_with fail
        go_ret
        exact ⟨ret_nat (by rw [HST.out]), HB.out⟩
set_option maxRecDepth 100000 in
set_option maxHeartbeats 3200000 in
theorem depth_calls (m : Nat) : ∀ (e : Ex), e.size ≤ m → e.size ≤ 1048576 → ∀ w, e.lies w → Calls Tryd.prog 28 #[e.val] w fun x w' => x = .returned (.int .i64 e.depth) ∧ Below w.heap.size w w' := by
  induction m with
  | zero => intro e h; have := size_pos e; omega
  | succ m ih =>
    rintro ⟨kd, pl, nm, it, dn, a, cap, l⟩ hm hbig w ⟨b, o, hla, hlie⟩
    obtain ⟨n, hn⟩ : ∃ n, n = l.length := ⟨_, rfl⟩
    have HM : Hid (1 + sizes l ≤ m + 1) := hm
    have HG : Hid (1 + sizes l ≤ 1048576) := hbig
    have hnb : n ≤ 1048576 := by
      have : l.length ≤ sizes l := by
        clear hla hlie hn HM HG hm hbig ih
        induction l with
        | nil => simp
        | cons e r ihr => have := size_pos e; simp only [List.length_cons, sizes]; omega
      have := HG.out
      omega
    clear hm hbig
    simp only [Ex.val, Ex.cells, Ex.depth, List.toArray]
    rw [← hn]
    have HN : Hid (n = l.length) := hn
    have HLA : Hid _ := hla
    have HLie : Hid _ := hlie
    have HIH : Hid _ := ih
    clear hn hla hlie ih
    go_enter Tryd.func28, Tryd.ntmps28
    go_wp2_with fail
    go_loopw [3, 4] (fun s i wr => ∃ k : Nat, k ≤ n ∧ i = .int .i64 k ∧ s = .int .i64 (deepest (l.take k) : Nat) ∧ wr.cell? ⟨w.heap.size, 5, none⟩ = some (.slice a n cap) ∧ w.heap.size < wr.heap.size ∧ Hid (Below w.heap.size w wr)) (fun _ i _ => n - (intOf i).toNat)
    case atStart => exact ⟨0, by omega, rfl, by simp [deepest], by simp, by simp, (Below.refl _ _).alloc (Nat.le_refl _) _⟩
    case round =>
      obtain ⟨k, hk, rfl, rfl, hbox, hsz, HB⟩ := hrel
      by_cases hlt : k < n
      · have hkl : k < l.length := by rw [← HN.out]; exact hlt
        obtain rfl := HLA.out (by intro h; rw [h] at hkl; simp at hkl)
        obtain ⟨hc, hli⟩ := lieAt_get l o k HLie.out hkl
        have hs1 := sizes_at l k hkl
        have hs2 := sizes_take l (k + 1)
        have hs3 := size_arg hkl
        have HS : Hid (deepest (l.take (k + 1)) = max (deepest (l.take k)) l[k].depth) := deepest_at l k hkl
        have hblk : b < w.heap.size := by
          have h0 := hc 0 (by omega)
          cases hx : l[k]
          rw [hx] at h0
          exact World.block_lt_of_cell? w ⟨b, _, none⟩ h0
        have hcr : ∀ j, j < 6 → wr.cell? ⟨b, o + k * 6 + j, none⟩ = l[k].cells[j]? := fun j hj => (HB.out.cell (p := ⟨b, o + k * 6 + j, none⟩) hblk).trans (hc j hj)
        have CC := HIH.out l[k] (by have := HM.out; omega) (by have := HG.out; omega) wr (lies_below HB.out _ hli)
        have hbnd : deepest (l.take k) ≤ 1048576 ∧ l[k].depth ≤ 1048576 := ⟨by have := deepest_le (l.take k); have := sizes_take l k; have := HG.out; omega, by have := depth_le l[k]; have := HG.out; omega⟩
        generalize l[k] = x at hcr CC HS hbnd
        obtain ⟨kd', pl', nm', it', dn', a', cap', l'⟩ := x
        have c0 : wr.cell? ⟨b, o + k * 6, none⟩ = some (.int .u8 kd') := hcr 0 (by omega)
        have c1 : wr.cell? ⟨b, o + k * 6 + 1, none⟩ = some (.int .i64 pl') := hcr 1 (by omega)
        have c2 : wr.cell? ⟨b, o + k * 6 + 2, none⟩ = some (.string nm') := hcr 2 (by omega)
        have c3 : wr.cell? ⟨b, o + k * 6 + 3, none⟩ = some (.int .i64 it') := hcr 3 (by omega)
        have c4 : wr.cell? ⟨b, o + k * 6 + 4, none⟩ = some (.int .i64 dn') := hcr 4 (by omega)
        have c5 : wr.cell? ⟨b, o + k * 6 + 5, none⟩ = some (.slice a' l'.length cap') := hcr 5 (by omega)
        simp only [Ex.val, Ex.cells, List.toArray] at CC
        generalize Ex.depth (.mk kd' pl' nm' it' dn' a' cap' l') = z at CC HS hbnd
        clear hc hcr hli hs1 hs2 hs3 hblk hkl
        go_wp2_with fail
        refine CC.mono ?_
        rintro e w2 ⟨rfl, hb2⟩
        have hbox2 : w2.cell? ⟨w.heap.size, 5, none⟩ = some (.slice (some ⟨b, o, none⟩) n cap) := (hb2.cell (p := ⟨w.heap.size, 5, none⟩) hsz).trans hbox
        have hsz2 : w.heap.size < w2.heap.size := by have := hb2.size; omega
        have HB2 : Hid (Below w.heap.size w w2) := HB.out.trans (hb2.mono (by omega))
        clear CC hb2 c0 c1 c2 c3 c4 c5 hbox hsz HB
        go_wp2_with fail
        go_roundw
        case rel => exact ⟨k + 1, by omega, by go_num, by rw [HS.out]; exact congrArg (Value.int .i64) (by split <;> omega), hbox2, hsz2, HB2⟩
        case measure => simp [intOf]; omega
      · obtain rfl : k = n := by omega
        have hst : deepest (l.take k) = deepest l := by rw [HN.out, List.take_length]
        have HST : Hid _ := hst
        have hdl : deepest (l.take k) ≤ 1048576 := by have := deepest_le l; have := HG.out; omega
        clear hst
        go_wp2_with fail
        go_ret
        exact ⟨ret_nat (by rw [HST.out]; omega), HB.out⟩
end Go.Proofs.YtbahpbinilnfoaaDoor
