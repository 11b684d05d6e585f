/- The statement TreeFar's row: nots of a variable, as deep as is asked. -/
import Derived.Test.YthbjagmlcemefaaDoorTreeKit
import Derived.Test.YthbjagmlcemefaaDoorTreeAlive
namespace Go.Proofs.YthbjagmlcemefaaDoor
open Go.RowKit
open Ex.size Ex.depth Ex.lies Ex.bulk Ex.good Ex.shape
attribute [local go_sem] later_size later_cell later_frozen later_setCell later_drew later_drewN later_tape drewN_setCell drewN_alloc drewN_later later_later lt_more lt_more1 lt_more2 lt_more3 lt_more4 lk0_0_1 lk1_0_1 lk2_0_1 lk0_0_2 lk1_0_2 lk2_0_2 lk0_1_2 lk0_0_3 lk1_0_3 lk2_0_3 lk0_1_3 lk0_2_3 lk0_0_4 lk1_0_4 lk2_0_4 lk0_1_4 lk0_2_4 lk0_3_4 lk0_0_5 lk1_0_5 lk2_0_5 lk0_1_5 lk0_2_5 lk0_3_5 lk0_4_5 lk0_0_6 lk1_0_6 lk2_0_6 lk0_1_6 lk0_2_6 lk0_3_6 lk0_4_6 lk0_5_6 lk0_0_7 lk1_0_7 lk2_0_7 lk0_1_7 lk0_2_7 lk0_3_7 lk0_4_7 lk0_5_7 lk0_6_7
def vx : Ex := .mk 1 0 ⟨#[120]⟩ 0 0 none 0 []
/-- A row of nots whose blocks are such. -/
def rowLies (w : World) (P : Nat → Prop) : Nat → Ex → Prop
  | 0, e => e = vx
  | n + 1, e => ∃ b e', P b ∧ b < w.heap.size ∧ (∀ j, j < 6 → w.cell? ⟨b, j, none⟩ = e'.cells[j]?) ∧ rowLies w P n e' ∧ e = .mk 6 0 ⟨#[]⟩ 0 0 (some ⟨b, 0, none⟩) 1 [e']
theorem rowLies_keep {w w' : World} {P : Nat → Prop} (hs : w.heap.size ≤ w'.heap.size) (hc : ∀ b j, P b → b < w.heap.size → w'.cell? ⟨b, j, none⟩ = w.cell? ⟨b, j, none⟩) : ∀ (n : Nat) (e : Ex), rowLies w P n e → rowLies w' P n e
  | 0, _, h => h
  | n + 1, _, ⟨b, e', h1, h2, h3, h4, h5⟩ => ⟨b, e', h1, Nat.lt_of_lt_of_le h2 hs, fun j hj => (hc b j h1 h2).trans (h3 j hj), rowLies_keep hs hc n e' h4, h5⟩
theorem rowLies_imp {w : World} {P P' : Nat → Prop} (h : ∀ b, b < w.heap.size → P b → P' b) : ∀ (n : Nat) (e : Ex), rowLies w P n e → rowLies w P' n e
  | 0, _, h0 => h0
  | n + 1, _, ⟨b, e', h1, h2, h3, h4, h5⟩ => ⟨b, e', h b h2 h1, h2, h3, rowLies_imp h n e' h4, h5⟩
theorem rowLies_lies {w : World} {P : Nat → Prop} : ∀ (n : Nat) (e : Ex), rowLies w P n e → e.lies w
  | 0, _, h => by rw [h]; exact ⟨0, 0, fun h => absurd rfl h, trivial⟩
  | n + 1, _, ⟨b, e', _, _, h3, h4, h5⟩ => by
    rw [h5]
    exact ⟨b, 0, fun _ => rfl, fun j hj => by rw [Nat.zero_add]; exact h3 j hj, rowLies_lies n e' h4, trivial⟩
theorem rowLies_size {w : World} {P : Nat → Prop} : ∀ (n : Nat) (e : Ex), rowLies w P n e → e.size = n + 1 ∧ e.depth = n + 1 ∧ e.shape = true ∧ e.good ∧ e.bulk ≤ 1000 * (n + 1)
  | 0, _, h => by
    rw [h]
    refine ⟨by simp [vx, Ex.size, sizes], by simp [vx, Ex.depth, deepest], ?_, ?_, ?_⟩
    · have h2 : (argsOkB 1 0 && nameOkB 1 ⟨#[120]⟩ && intOkB 1 0 && denOkB 1 0 && true) = true := by decide +kernel
      simp only [vx, Ex.shape, shapes, List.length_nil]
      exact h2
    · have h2 : ((Lit.int .u8 1).wf = true ∧ (Lit.int .i64 0).wf = true ∧ (ByteArray.mk #[120]).size ≤ maxLen ∧ (Lit.int .i64 0).wf = true ∧ (Lit.int .i64 0).wf = true ∧ 0 ≤ 0 ∧ 0 ≤ maxLen) := by decide +kernel
      simp only [vx, Ex.good, goods, List.length_nil, and_true]
      exact h2
    · simp only [vx, Ex.bulk, bulks]
      decide +kernel
  | n + 1, _, ⟨b, e', _, _, h3, h4, h5⟩ => by
    obtain ⟨g1, g2, g3, g4, g5⟩ := rowLies_size n e' h4
    rw [h5]
    refine ⟨by simp [Ex.size, sizes, g1]; omega, by simp [Ex.depth, deepest, g2], ?_, ?_, ?_⟩
    · have h2 : (argsOkB 6 1 && nameOkB 6 ⟨#[]⟩ && intOkB 6 0 && denOkB 6 0) = true := by decide +kernel
      simp only [Ex.shape, shapes, List.length_cons, List.length_nil, g3, Bool.and_true]
      exact h2
    · have h2 : ((Lit.int .u8 6).wf = true ∧ (Lit.int .i64 0).wf = true ∧ (ByteArray.mk #[]).size ≤ maxLen ∧ (Lit.int .i64 0).wf = true ∧ (Lit.int .i64 0).wf = true ∧ 0 + 1 ≤ 1 ∧ 1 ≤ maxLen) := by decide +kernel
      simp only [Ex.good, goods, List.length_cons, List.length_nil, and_true]
      exact ⟨h2, g4⟩
    · have h2 : (ByteArray.mk #[]).size = 0 := rfl
      simp only [Ex.bulk, bulks, h2]
      omega
/-- Six cells written, one behind the other. -/
def set6 (W : World) (q : Nat) (v0 v1 v2 v3 v4 v5 : Value) : World := (((((W.setCell ⟨q, 0, none⟩ v0).setCell ⟨q, 1, none⟩ v1).setCell ⟨q, 2, none⟩ v2).setCell ⟨q, 3, none⟩ v3).setCell ⟨q, 4, none⟩ v4).setCell ⟨q, 5, none⟩ v5
theorem set6_other (W : World) (q : Nat) (v0 v1 v2 v3 v4 v5 : Value) (k : Nat) (h : k ≠ q) : (set6 W q v0 v1 v2 v3 v4 v5).heap[k]? = W.heap[k]? := by
  unfold set6
  rw [Below.heap_setCell _ _ _ _ h, Below.heap_setCell _ _ _ _ h, Below.heap_setCell _ _ _ _ h, Below.heap_setCell _ _ _ _ h, Below.heap_setCell _ _ _ _ h, Below.heap_setCell _ _ _ _ h]
theorem set6_size (W : World) (q : Nat) (v0 v1 v2 v3 v4 v5 : Value) : (set6 W q v0 v1 v2 v3 v4 v5).heap.size = W.heap.size := by
  unfold set6
  simp
theorem set6_below {B : Nat} {w W : World} (h : Below B w W) {q : Nat} (hq : B ≤ q) (v0 v1 v2 v3 v4 v5 : Value) : Below B w (set6 W q v0 v1 v2 v3 v4 v5) :=
  (((((h.setCell (p := ⟨q, 0, none⟩) hq _).setCell (p := ⟨q, 1, none⟩) hq _).setCell (p := ⟨q, 2, none⟩) hq _).setCell (p := ⟨q, 3, none⟩) hq _).setCell (p := ⟨q, 4, none⟩) hq _).setCell (p := ⟨q, 5, none⟩) hq _
theorem set6_cell {W : World} {q : Nat} {l : List Value} (hl : l.length = 6) (h : ∀ j, j < 6 → W.cell? ⟨q, j, none⟩ = l[j]?) (v0 v1 v2 v3 v4 v5 : Value) : ∀ j, j < 6 → (set6 W q v0 v1 v2 v3 v4 v5).cell? ⟨q, j, none⟩ = [v0, v1, v2, v3, v4, v5][j]? := by
  have g : ∀ j, j < 6 → ∃ o, W.cell? ⟨q, j, none⟩ = some o := fun j hj => ⟨_, (h j hj).trans (List.getElem?_eq_getElem (by omega))⟩
  obtain ⟨o0, g0⟩ := g 0 (by omega)
  obtain ⟨o1, g1⟩ := g 1 (by omega)
  obtain ⟨o2, g2⟩ := g 2 (by omega)
  obtain ⟨o3, g3⟩ := g 3 (by omega)
  obtain ⟨o4, g4⟩ := g 4 (by omega)
  obtain ⟨o5, g5⟩ := g 5 (by omega)
  intro j hj
  have ho : ∀ (X : World) (i k : Nat) (v : Value), i ≠ k → (X.setCell ⟨q, i, none⟩ v).cell? ⟨q, k, none⟩ = X.cell? ⟨q, k, none⟩ := fun X i k v hne => World.cell?_setCell_other _ _ _ _ (by first | (simp; done) | (simp; omega))
  unfold set6
  match j, hj with
  | 0, _ => rw [ho _ _ _ _ (by omega), ho _ _ _ _ (by omega), ho _ _ _ _ (by omega), ho _ _ _ _ (by omega), ho _ _ _ _ (by omega)]; exact World.cell?_setCell_same _ _ _ g0
  | 1, _ => rw [ho _ _ _ _ (by omega), ho _ _ _ _ (by omega), ho _ _ _ _ (by omega), ho _ _ _ _ (by omega)]; exact World.cell?_setCell_same _ _ _ (by rw [ho _ _ _ _ (by omega)]; exact g1)
  | 2, _ => rw [ho _ _ _ _ (by omega), ho _ _ _ _ (by omega), ho _ _ _ _ (by omega)]; exact World.cell?_setCell_same _ _ _ (by rw [ho _ _ _ _ (by omega), ho _ _ _ _ (by omega)]; exact g2)
  | 3, _ => rw [ho _ _ _ _ (by omega), ho _ _ _ _ (by omega)]; exact World.cell?_setCell_same _ _ _ (by rw [ho _ _ _ _ (by omega), ho _ _ _ _ (by omega), ho _ _ _ _ (by omega)]; exact g3)
  | 4, _ => rw [ho _ _ _ _ (by omega)]; exact World.cell?_setCell_same _ _ _ (by rw [ho _ _ _ _ (by omega), ho _ _ _ _ (by omega), ho _ _ _ _ (by omega), ho _ _ _ _ (by omega)]; exact g4)
  | 5, _ => exact World.cell?_setCell_same _ _ _ (by rw [ho _ _ _ _ (by omega), ho _ _ _ _ (by omega), ho _ _ _ _ (by omega), ho _ _ _ _ (by omega), ho _ _ _ _ (by omega)]; exact g5)
theorem set6_frozen (W : World) (q : Nat) (v0 v1 v2 v3 v4 v5 : Value) (p : Addr) : (set6 W q v0 v1 v2 v3 v4 v5).frozen? p = W.frozen? p := by
  unfold set6
  simp
set_option maxRecDepth 100000 in
set_option maxHeartbeats 3200000 in
theorem row_calls (n : Nat) (h1 : 1 ≤ n) (hn : n ≤ 1000) (w : World) : Calls Tryd.prog 9 #[.int .i64 n] w fun x w' => ∃ e, x = .returned e.val ∧ rowLies w' (fun b => w.heap.size < b) (n - 1) e ∧ Below w.heap.size w w' := by
  obtain ⟨B, hB⟩ : ∃ B, B = w.heap.size := ⟨_, rfl⟩
  have HB : Hid (B = w.heap.size) := hB
  go_enter Tryd.func9, Tryd.ntmps9
  go_wp2_with fail
  rw [← hB]
  clear hB
  go_loopw [4] (fun i wr => ∃ (k : Nat) (e : Ex), 1 ≤ k ∧ k ≤ n ∧ i = .int .i64 k ∧ Hid (rowLies wr (fun b => B + 1 < b) (k - 1) e) ∧ Hid (Below B w wr) ∧ Hid (B + 2 ≤ wr.heap.size) ∧ (∀ j, j < 6 → wr.cell? ⟨B + 1, j, none⟩ = e.cells[j]?) ∧ (∀ j, j < 6 → wr.cell? ⟨B, j, none⟩ = (Ex.mk 0 0 ⟨#[]⟩ 0 0 none 0 []).cells[j]?) ∧ (∀ j, wr.frozen? ⟨B + 1, j, none⟩ = false) ∧ (∀ j, wr.frozen? ⟨B, j, none⟩ = false)) (fun i _ => n - (intOf i).toNat)
  case atStart =>
    refine ⟨1, vx, by omega, h1, rfl, rfl, ?_, ?_, ?_, ?_, ?_, ?_⟩
    · rw [HB.out]; exact ((Below.refl _ _).alloc (Nat.le_refl _) _).alloc (by simp) _
    · rw [Hid, HB.out]; simp
    · intro j hj; rw [HB.out]; exact cell_alloc_eq (by simp)
    · intro j hj; rw [HB.out, World.cell?_alloc_past _ _ _ (by simp)]; exact cell_alloc_eq rfl
    · intro j; rw [HB.out]; simp
    · intro j; rw [HB.out]; simp
  case round =>
    obtain ⟨k, e, hk1, hk, rfl, HR, HX, HSz, hc, hz, hf, hfz⟩ := hrel
    obtain ⟨kd, pl, nm, it, dn, ea, ec, el⟩ := e
    have c0 : wr.cell? ⟨B + 1, 0, none⟩ = some (.int .u8 kd) := hc 0 (by omega)
    have c1 : wr.cell? ⟨B + 1, 1, none⟩ = some (.int .i64 pl) := hc 1 (by omega)
    have c2 : wr.cell? ⟨B + 1, 2, none⟩ = some (.string nm) := hc 2 (by omega)
    have c3 : wr.cell? ⟨B + 1, 3, none⟩ = some (.int .i64 it) := hc 3 (by omega)
    have c4 : wr.cell? ⟨B + 1, 4, none⟩ = some (.int .i64 dn) := hc 4 (by omega)
    have c5 : wr.cell? ⟨B + 1, 5, none⟩ = some (.slice ea el.length ec) := hc 5 (by omega)
    have f0 := hf 0
    have f1 := hf 1
    have f2 := hf 2
    have f3 := hf 3
    have f4 := hf 4
    have f5 := hf 5
    have g0 := hfz 0
    have g1 := hfz 1
    have g2 := hfz 2
    have g3 := hfz 3
    have g4 := hfz 4
    have g5 := hfz 5
    have z0 : wr.cell? ⟨B, 0, none⟩ = some (.int .u8 0) := hz 0 (by omega)
    have z1 : wr.cell? ⟨B, 1, none⟩ = some (.int .i64 0) := hz 1 (by omega)
    have z2 : wr.cell? ⟨B, 2, none⟩ = some (.string ⟨#[]⟩) := hz 2 (by omega)
    have z3 : wr.cell? ⟨B, 3, none⟩ = some (.int .i64 0) := hz 3 (by omega)
    have z4 : wr.cell? ⟨B, 4, none⟩ = some (.int .i64 0) := hz 4 (by omega)
    have z5 : wr.cell? ⟨B, 5, none⟩ = some (.slice none 0 0) := hz 5 (by omega)
    have HC : Hid _ := hc
    have HZ : Hid _ := hz
    have HF : Hid _ := hf
    have HFZ : Hid _ := hfz
    clear hc hz hf hfz
    have hb1 : B + 1 < wr.heap.size := by have := HSz.out; omega
    have hb0 : B < wr.heap.size := by omega
    have HX0 : B ≤ wr.heap.size := by omega
    by_cases hlt : k < n
    · obtain ⟨A, hA⟩ : ∃ A : World, A = set6 wr (B + 1) (.int .u8 6) (.int .i64 0) (.string ⟨#[]⟩) (.int .i64 0) (.int .i64 0) (.slice (some ⟨wr.heap.size, 0, none⟩) 1 1) := ⟨_, rfl⟩
      obtain ⟨W1, hW1⟩ : ∃ W1 : World, W1 = A.alloc (.cells #[.int .u8 kd, .int .i64 pl, .string nm, .int .i64 it, .int .i64 dn, .slice ea el.length ec] 33) := ⟨_, rfl⟩
      have hAs : A.heap.size = wr.heap.size := by rw [hA, set6_size]
      have hAc : ∀ b j, b ≠ B + 1 → A.cell? ⟨b, j, none⟩ = wr.cell? ⟨b, j, none⟩ := fun b j hb => by rw [hA]; exact World.cell?_of_block (set6_other _ _ _ _ _ _ _ _ _ hb)
      have hAn : ∀ j, j < 6 → A.cell? ⟨B + 1, j, none⟩ = (Ex.mk 6 0 ⟨#[]⟩ 0 0 (some ⟨wr.heap.size, 0, none⟩) 1 [.mk kd pl nm it dn ea ec el]).cells[j]? := by rw [hA]; exact set6_cell (l := (Ex.mk kd pl nm it dn ea ec el).cells) rfl HC.out _ _ _ _ _ _
      have hAf : ∀ b j, A.frozen? ⟨b, j, none⟩ = wr.frozen? ⟨b, j, none⟩ := fun b j => by rw [hA, set6_frozen]
      have hAb : Below B w A := by rw [hA]; exact set6_below HX.out (by omega) _ _ _ _ _ _
      have hO : ∀ b j, b < wr.heap.size → W1.cell? ⟨b, j, none⟩ = A.cell? ⟨b, j, none⟩ := fun b j hb => by rw [hW1]; exact World.cell?_alloc_old _ _ ⟨b, j, none⟩ (by rw [hAs]; exact Nat.ne_of_lt hb)
      have hOf : ∀ b j, b < wr.heap.size → W1.frozen? ⟨b, j, none⟩ = A.frozen? ⟨b, j, none⟩ := fun b j hb => by rw [hW1]; exact World.frozen?_alloc_old _ _ ⟨b, j, none⟩ (by rw [hAs]; exact Nat.ne_of_lt hb)
      have hOn : ∀ j, W1.cell? ⟨wr.heap.size, j, none⟩ = (Ex.mk kd pl nm it dn ea ec el).cells[j]? := fun j => by rw [hW1]; exact cell_alloc_eq hAs.symm
      have hs1 : W1.heap.size = wr.heap.size + 1 := by rw [hW1]; simp [hAs]
      have F1 : Hid (rowLies W1 (fun b => B + 1 < b) (k - 1 + 1) (Ex.mk 6 0 ⟨#[]⟩ 0 0 (some ⟨wr.heap.size, 0, none⟩) 1 [.mk kd pl nm it dn ea ec el])) :=
        ⟨wr.heap.size, _, hb1, by omega, fun j hj => hOn j, rowLies_keep (by omega) (fun b j (h1 : B + 1 < b) h2 => (hO b j h2).trans (hAc b j (show b ≠ B + 1 by omega))) _ _ HR.out, rfl⟩
      have F2 : Hid (Below B w W1) := by rw [Hid, hW1]; exact hAb.alloc (by rw [hAs]; exact HX0) _
      have F3 : Hid (B + 2 ≤ W1.heap.size) := by rw [Hid]; omega
      have F4 : Hid (∀ j, j < 6 → W1.cell? ⟨B + 1, j, none⟩ = (Ex.mk 6 0 ⟨#[]⟩ 0 0 (some ⟨wr.heap.size, 0, none⟩) 1 [.mk kd pl nm it dn ea ec el]).cells[j]?) := fun j hj => (hO _ j hb1).trans (hAn j hj)
      have F5 : Hid (∀ j, j < 6 → W1.cell? ⟨B, j, none⟩ = (Ex.mk 0 0 ⟨#[]⟩ 0 0 none 0 []).cells[j]?) := fun j hj => ((hO B j hb0).trans (hAc B j (by omega))).trans (HZ.out j hj)
      have F6 : Hid (∀ j, W1.frozen? ⟨B + 1, j, none⟩ = false) := fun j => by rw [hOf _ j hb1, hAf]; exact HF.out j
      have F7 : Hid (∀ j, W1.frozen? ⟨B, j, none⟩ = false) := fun j => by rw [hOf _ j hb0, hAf]; exact HFZ.out j
      have HW1 : Hid (((((((wr.setCell ⟨B + 1, 0, none⟩ (.int .u8 6)).setCell ⟨B + 1, 1, none⟩ (.int .i64 0)).setCell ⟨B + 1, 2, none⟩ (.string ⟨#[]⟩)).setCell ⟨B + 1, 3, none⟩ (.int .i64 0)).setCell ⟨B + 1, 4, none⟩ (.int .i64 0)).setCell ⟨B + 1, 5, none⟩ (.slice (some ⟨wr.heap.size, 0, none⟩) 1 1)).alloc (.cells #[.int .u8 kd, .int .i64 pl, .string nm, .int .i64 it, .int .i64 dn, .slice ea el.length ec] 33) = W1) := by rw [Hid, hW1, hA]; rfl
      clear hA hW1 hAs hAc hAn hAf hAb hO hOf hOn hs1
      go_wp2_with fail
      rw [HW1.out]
      go_roundw
      case rel => exact ⟨k + 1, _, by omega, by omega, by go_num, by rw [show k + 1 - 1 = k - 1 + 1 by omega]; exact F1, F2, F3, F4.out, F5.out, F6.out, F7.out⟩
      case measure => simp [intOf]; omega
    · obtain rfl : k = n := by omega
      obtain ⟨W1, hW1⟩ : ∃ W1 : World, W1 = set6 wr B (.int .u8 kd) (.int .i64 pl) (.string nm) (.int .i64 it) (.int .i64 dn) (.slice ea el.length ec) := ⟨_, rfl⟩
      have F1 : Hid (rowLies W1 (fun b => w.heap.size < b) (k - 1) (.mk kd pl nm it dn ea ec el)) :=
        rowLies_imp (P := fun b => B + 1 < b) (fun b _ (h : B + 1 < b) => show w.heap.size < b by have := HB.out; omega) _ _ (rowLies_keep (by rw [hW1, set6_size]; exact Nat.le_refl _) (fun b j (h1 : B + 1 < b) h2 => by rw [hW1]; exact World.cell?_of_block (set6_other _ _ _ _ _ _ _ _ _ (show b ≠ B by omega))) _ _ HR.out)
      have F2 : Hid (Below w.heap.size w W1) := by rw [Hid, hW1, ← HB.out]; exact set6_below HX.out (Nat.le_refl _) _ _ _ _ _ _
      have F4 : Hid (∀ j, j < 6 → W1.cell? ⟨B, j, none⟩ = (Ex.mk kd pl nm it dn ea ec el).cells[j]?) := by rw [Hid, hW1]; exact set6_cell (l := (Ex.mk 0 0 ⟨#[]⟩ 0 0 none 0 []).cells) rfl HZ.out _ _ _ _ _ _
      have HW1 : Hid (((((((wr.setCell ⟨B, 0, none⟩ (.int .u8 kd)).setCell ⟨B, 1, none⟩ (.int .i64 pl)).setCell ⟨B, 2, none⟩ (.string nm)).setCell ⟨B, 3, none⟩ (.int .i64 it)).setCell ⟨B, 4, none⟩ (.int .i64 dn)).setCell ⟨B, 5, none⟩ (.slice ea el.length ec)) = W1) := by rw [Hid, hW1]; rfl
      clear hW1
      go_wp2_with fail
      rw [HW1.out]
      clear z0 z1 z2 z3 z4 z5
      have z0 : W1.cell? ⟨B, 0, none⟩ = some (.int .u8 kd) := F4.out 0 (by omega)
      have z1 : W1.cell? ⟨B, 1, none⟩ = some (.int .i64 pl) := F4.out 1 (by omega)
      have z2 : W1.cell? ⟨B, 2, none⟩ = some (.string nm) := F4.out 2 (by omega)
      have z3 : W1.cell? ⟨B, 3, none⟩ = some (.int .i64 it) := F4.out 3 (by omega)
      have z4 : W1.cell? ⟨B, 4, none⟩ = some (.int .i64 dn) := F4.out 4 (by omega)
      have z5 : W1.cell? ⟨B, 5, none⟩ = some (.slice ea el.length ec) := F4.out 5 (by omega)
      refine bodyPost_ret (by simp [results, Tryd.results9, go_sem, *]; try rfl) rfl ?_
      exact ⟨.mk kd pl nm it dn ea ec el, rfl, F1.out, F2.out⟩
end Go.Proofs.YthbjagmlcemefaaDoor
