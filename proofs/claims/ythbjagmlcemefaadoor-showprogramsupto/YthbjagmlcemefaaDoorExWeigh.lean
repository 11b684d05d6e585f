/- The statements' own weight of an expression: Heavy. -/
import Derived.Test.YthbjagmlcemefaaDoorExOpen
import Derived.Test.YthbjagmlcemefaaDoorExSizes
namespace Go.Proofs.YthbjagmlcemefaaDoor
open Go.RowKit
open Ex.size Ex.depth Ex.lies Ex.bulk Ex.good
attribute [local go_sem] later_size later_cell later_frozen later_setCell later_drew later_drewN later_tape drewN_setCell drewN_alloc drewN_later later_later lt_more lt_more1 lt_more2 lt_more3 lt_more4 lk0_0_1 lk1_0_1 lk2_0_1 lk0_0_2 lk1_0_2 lk2_0_2 lk0_1_2 lk0_0_3 lk1_0_3 lk2_0_3 lk0_1_3 lk0_2_3 lk0_0_4 lk1_0_4 lk2_0_4 lk0_1_4 lk0_2_4 lk0_3_4 lk0_0_5 lk1_0_5 lk2_0_5 lk0_1_5 lk0_2_5 lk0_3_5 lk0_4_5 lk0_0_6 lk1_0_6 lk2_0_6 lk0_1_6 lk0_2_6 lk0_3_6 lk0_4_6 lk0_5_6 lk0_0_7 lk1_0_7 lk2_0_7 lk0_1_7 lk0_2_7 lk0_3_7 lk0_4_7 lk0_5_7 lk0_6_7
def Ex.weigh : Ex → Nat
  | .mk _ _ nm _ _ _ _ l => weighs (1 + nm.size / 16) l
where weighs : Nat → List Ex → Nat
  | n, [] => n
  | n, e :: r => if n ≤ 8192 then weighs (n + e.weigh) r else n
open Ex.weigh
theorem weighs_ge (l : List Ex) (n : Nat) : n ≤ weighs n l := by
  induction l generalizing n with
  | nil => simp [weighs]
  | cons e r ih =>
    simp only [weighs]
    split
    · have := ih (n + e.weigh)
      omega
    · omega
theorem weigh_le : ∀ e : Ex, e.weigh ≤ e.bulk
  | .mk _ _ nm _ _ _ _ l => by
    have := all l (1 + nm.size / 16)
    simp only [Ex.weigh, Ex.bulk]
    omega
where all : ∀ (l : List Ex) (n : Nat), weighs n l ≤ n + bulks l
  | [], n => by simp [weighs, bulks]
  | e :: r, n => by
    have h1 := weigh_le e
    have h2 := all r (n + e.weigh)
    simp only [weighs, bulks]
    split <;> omega
theorem weighs_le (l : List Ex) (n : Nat) : weighs n l ≤ n + bulks l := weigh_le.all l n
theorem size_bulk : ∀ e : Ex, e.size ≤ e.bulk
  | .mk _ _ _ _ _ _ _ l => by
    have := all l
    simp only [Ex.size, Ex.bulk]
    omega
where all : ∀ l : List Ex, sizes l ≤ bulks l
  | [] => by simp [sizes, bulks]
  | e :: r => by
    have h1 := size_bulk e
    have h2 := all r
    simp only [sizes, bulks]
    omega
theorem sizes_bulk (l : List Ex) : sizes l ≤ bulks l := size_bulk.all l
theorem bulk_arg {l : List Ex} {i : Nat} (h : i < l.length) : l[i].bulk ≤ bulks l := by
  induction l generalizing i with
  | nil => simp at h
  | cons e r ih =>
    cases i with
    | zero => simp [bulks]
    | succ i =>
      have := ih (i := i) (by simpa using h)
      simp only [bulks, List.getElem_cons_succ]
      omega
theorem len_sizes (l : List Ex) : l.length ≤ sizes l := by
  induction l with
  | nil => simp
  | cons e r ih => have := size_pos e; simp only [List.length_cons, sizes]; omega
set_option maxRecDepth 100000 in
set_option maxHeartbeats 3200000 in
theorem weight_calls (m : Nat) : ∀ (e : Ex), e.size ≤ m → e.bulk ≤ 1048576 → ∀ w, e.lies w → Calls Tryd.prog 38 #[e.val] w fun x w' => x = .returned (.int .i64 e.weigh) ∧ Below w.heap.size w w' := by
  induction m with
  | zero => intro e h; have := size_pos e; omega
  | succ m ih =>
    rintro ⟨kd, pl, nm, it, dn, a, cap, l⟩ hm hbig w ⟨b, o, hla, hlie⟩
    obtain ⟨n, hn⟩ : ∃ n, n = l.length := ⟨_, rfl⟩
    have HM : Hid (1 + sizes l ≤ m + 1) := hm
    have HG : Hid (1 + nm.size + bulks l ≤ 1048576) := hbig
    have hnm : nm.size ≤ 1048576 := by have := HG.out; omega
    have hnb : n ≤ 1048576 := by
      have h1 := len_sizes l
      have h2 := sizes_bulk l
      have := HG.out
      omega
    clear hm hbig
    obtain ⟨W, hW⟩ : ∃ W, W = weighs (1 + nm.size / 16) l := ⟨_, rfl⟩
    have hWb : W ≤ 1048576 := by have := weighs_le l (1 + nm.size / 16); have := HG.out; omega
    simp only [Ex.val, Ex.cells, Ex.weigh, List.toArray]
    rw [← hn, ← hW]
    have HW : Hid _ := hW
    have HN : Hid (n = l.length) := hn
    have HLA : Hid _ := hla
    have HLie : Hid _ := hlie
    have HIH : Hid _ := ih
    clear hn hla hlie ih hW
    go_enter Tryd.func38, Tryd.ntmps38
    go_wp2_with fail
    go_loopw [3, 4] (fun s i wr => ∃ k x : Nat, k ≤ n ∧ x ≤ 1048576 ∧ i = .int .i64 k ∧ s = .int .i64 x ∧ Hid (weighs x (l.drop k) = W) ∧ wr.cell? ⟨w.heap.size, 5, none⟩ = some (.slice a n cap) ∧ w.heap.size < wr.heap.size ∧ Hid (Below w.heap.size w wr)) (fun _ i _ => n - (intOf i).toNat)
    case atStart => exact ⟨0, 1 + nm.size / 16, by omega, by omega, rfl, by go_num, by rw [Hid, HW.out]; rfl, by simp, by simp, (Below.refl _ _).alloc (Nat.le_refl _) _⟩
    case round =>
      obtain ⟨k, x, hk, hx, rfl, rfl, HX, hbox, hsz, HB⟩ := hrel
      by_cases hlt : k < n
      · have hkl : k < l.length := by rw [← HN.out]; exact hlt
        have hdrop : l.drop k = l[k] :: l.drop (k + 1) := List.drop_eq_getElem_cons hkl
        have hX := HX.out
        rw [hdrop, weighs] at hX
        by_cases h8 : x ≤ 8192
        · have q8 : decide ((x : Int) ≤ 8192) = true := by simp; omega
          have q88 : decide (x ≤ 8192) = true := by simpa using h8
          rw [if_pos h8] at hX
          have hxw : x + l[k].weigh ≤ 1048576 := by have := weighs_ge (l.drop (k + 1)) (x + l[k].weigh); omega
          have HX2 : Hid _ := hX
          obtain rfl := HLA.out (by intro h; rw [h] at hkl; simp at hkl)
          obtain ⟨hc, hli⟩ := lieAt_get l o k HLie.out hkl
          have hs3 := size_arg hkl
          have hb3 := bulk_arg hkl
          have hblk : b < w.heap.size := by
            have h0 := hc 0 (by omega)
            cases hx : l[k]
            rw [hx] at h0
            exact World.block_lt_of_cell? w ⟨b, _, none⟩ h0
          have hcr : ∀ j, j < 6 → wr.cell? ⟨b, o + k * 6 + j, none⟩ = l[k].cells[j]? := fun j hj => (HB.out.cell (p := ⟨b, o + k * 6 + j, none⟩) hblk).trans (hc j hj)
          have CC := HIH.out l[k] (by have := HM.out; omega) (by have := HG.out; omega) wr (lies_below HB.out _ hli)
          clear hX hdrop HX
          generalize l[k] = y at hcr CC HX2 hxw
          obtain ⟨kd', pl', nm', it', dn', a', cap', l'⟩ := y
          have c0 : wr.cell? ⟨b, o + k * 6, none⟩ = some (.int .u8 kd') := hcr 0 (by omega)
          have c1 : wr.cell? ⟨b, o + k * 6 + 1, none⟩ = some (.int .i64 pl') := hcr 1 (by omega)
          have c2 : wr.cell? ⟨b, o + k * 6 + 2, none⟩ = some (.string nm') := hcr 2 (by omega)
          have c3 : wr.cell? ⟨b, o + k * 6 + 3, none⟩ = some (.int .i64 it') := hcr 3 (by omega)
          have c4 : wr.cell? ⟨b, o + k * 6 + 4, none⟩ = some (.int .i64 dn') := hcr 4 (by omega)
          have c5 : wr.cell? ⟨b, o + k * 6 + 5, none⟩ = some (.slice a' l'.length cap') := hcr 5 (by omega)
          simp only [Ex.val, Ex.cells, List.toArray] at CC
          generalize Ex.weigh (.mk kd' pl' nm' it' dn' a' cap' l') = z at CC HX2 hxw
          clear hc hcr hli hs3 hb3 hblk hkl h8
          go_wp2_with fail
          refine CC.mono ?_
          rintro e w2 ⟨rfl, hb2⟩
          have hbox2 : w2.cell? ⟨w.heap.size, 5, none⟩ = some (.slice (some ⟨b, o, none⟩) n cap) := (hb2.cell (p := ⟨w.heap.size, 5, none⟩) hsz).trans hbox
          have hsz2 : w.heap.size < w2.heap.size := by have := hb2.size; omega
          have HB2 : Hid (Below w.heap.size w w2) := HB.out.trans (hb2.mono (by omega))
          clear CC hb2 c0 c1 c2 c3 c4 c5 hbox hsz HB
          go_wp2_with fail
          go_roundw
          case rel => exact ⟨k + 1, x + z, by omega, by omega, by go_num, by go_num, HX2, hbox2, hsz2, HB2⟩
          case measure => simp [intOf]; omega
        · have q8 : decide ((x : Int) ≤ 8192) = false := by simp; omega
          have q88 : decide (x ≤ 8192) = false := by simpa using h8
          rw [if_neg h8] at hX
          have HX2 : Hid (x = W) := hX
          clear hX hdrop h8 hkl HX
          go_wp2_with fail
          go_ret
          exact ⟨ret_nat (by rw [HX2.out]), HB.out⟩
      · obtain rfl : k = n := by omega
        have HX2 : Hid (x = W) := by
          have := HX.out
          rw [HN.out, List.drop_length] at this
          rw [Hid]
          simpa [weighs] using this
        clear HX
        go_wp2_with fail
        go_ret
        exact ⟨ret_nat (by rw [HX2.out]), HB.out⟩
/-- Is it more than a statement looks at? -/
def heavyB (e : Ex) : Bool := decide (8192 < e.weigh)
set_option maxRecDepth 100000 in
set_option maxHeartbeats 800000 in
theorem heavy_calls (e : Ex) (he : e.bulk ≤ 1048576) (w : World) (hl : e.lies w) : Calls Tryd.prog 13 #[e.val] w fun x w' => x = .returned (.bool (heavyB e)) ∧ Below w.heap.size w w' := by
  have CC := weight_calls e.size e (Nat.le_refl _) he
  have HH : Hid (heavyB e = decide (8192 < e.weigh)) := rfl
  have hwb : e.weigh ≤ 1048576 := by have := weigh_le e; omega
  generalize hz : e.weigh = z at CC HH hwb
  clear hz
  obtain ⟨kd, pl, nm, it, dn, a, cap, l⟩ := e
  have C1 := CC _ (lies_below ((Below.refl w.heap.size w).alloc (Nat.le_refl _) (.cells #[.int .u8 kd, .int .i64 pl, .string nm, .int .i64 it, .int .i64 dn, .slice a l.length cap] 33)) _ hl)
  simp only [Ex.val, Ex.cells, List.toArray] at C1 ⊢
  clear CC hl
  go_enter Tryd.func13, Tryd.ntmps13
  go_wp2_with fail
  refine C1.mono ?_
  rintro x w2 ⟨rfl, hb⟩
  have HB : Hid (Below w.heap.size w w2) := ((Below.refl w.heap.size w).alloc (Nat.le_refl _) _).trans (hb.mono (by simp))
  clear hb C1
  go_wp2
  go_ret
  refine ⟨?_, HB.out⟩
  rw [HH.out]
  try (refine congrArg (fun b => Ending.returned (.bool b)) ?_)
  try (rw [Bool.eq_iff_iff]; simp; omega)
end Go.Proofs.YthbjagmlcemefaaDoor
