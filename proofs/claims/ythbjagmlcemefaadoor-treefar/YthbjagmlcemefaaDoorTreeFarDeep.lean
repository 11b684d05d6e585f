/- TreeFar, the deep way. -/
import Derived.Test.YthbjagmlcemefaaDoorTreeFarPlain
import Derived.Test.YthbjagmlcemefaaDoorTreeOpen
import Derived.Deep.DeepCutAuto
namespace Go.Proofs.YthbjagmlcemefaaDoor
open Go.RowKit
open Ex.size Ex.depth Ex.lies Ex.bulk Ex.good Ex.shape
attribute [local go_sem] later_size later_cell later_frozen later_setCell later_drew later_drewN later_tape drewN_setCell drewN_alloc drewN_later later_later lt_more lt_more1 lt_more2 lt_more3 lt_more4 lk0_0_1 lk1_0_1 lk2_0_1 lk0_0_2 lk1_0_2 lk2_0_2 lk0_1_2 lk0_0_3 lk1_0_3 lk2_0_3 lk0_1_3 lk0_2_3 lk0_0_4 lk1_0_4 lk2_0_4 lk0_1_4 lk0_2_4 lk0_3_4 lk0_0_5 lk1_0_5 lk2_0_5 lk0_1_5 lk0_2_5 lk0_3_5 lk0_4_5 lk0_0_6 lk1_0_6 lk2_0_6 lk0_1_6 lk0_2_6 lk0_3_6 lk0_4_6 lk0_5_6 lk0_0_7 lk1_0_7 lk2_0_7 lk0_1_7 lk0_2_7 lk0_3_7 lk0_4_7 lk0_5_7 lk0_6_7
theorem far_start (w : World) : FarW w.heap.size w [] (.slice none 0 0) ((w.alloc (.cells #[.slice (some ⟨w.heap.size + 1, 0, none⟩) 1 1] 25)).alloc (.cells #[.bool false, .string ⟨#[110]⟩, .int .i64 0, .slice none 0 0, .slice none 0 0, .slice none 0 0, .slice none 0 0] 29)) := by
  refine ⟨((Below.refl _ _).alloc (Nat.le_refl _) _).alloc (by simp) _, by simp, ?_, fun j hj => ?_, ?_, by simp, World.ownsRow_nil _ _ _ _, fun q hq => by cases hq⟩
  · rw [World.cell?_alloc_past _ _ _ (by simp), World.cell?_alloc_at _ _ _ _ rfl]; rfl
  · rw [World.cell?_alloc_at _ _ _ _ (by simp)]
    match j, hj with
    | 0, _ => rfl
    | 1, _ => rfl
    | 2, _ => rfl
    | 3, _ => rfl
    | 4, _ => rfl
    | 5, _ => rfl
  · rw [World.cell?_alloc_at _ _ _ _ (by simp)]; rfl
theorem FarW.alloc' {B : Nat} {w w1 : World} {l : List Eqn} {v : Value} (h : FarW B w l v w1) (o : Obj) : FarW B w l v (w1.alloc o) := h.grow ((Below.refl _ _).alloc (Nat.le_refl _) _)
theorem FarW.drew' {B : Nat} {w w1 : World} {l : List Eqn} {v : Value} (h : FarW B w l v w1) : FarW B w l v w1.drew := h.grow (Below.refl _ _).drew
def RowPost (B : Nat) (w : World) (l : List Eqn) (v : Value) (N : Nat) (W1 : World) (x : Ending) (w' : World) : Prop :=
  ∃ kd pl nm it dn ea ec el, x = .returned (.agg #[.int .u8 kd, .int .i64 pl, .string nm, .int .i64 it, .int .i64 dn, .slice ea (List.length el) ec]) ∧ Hid (rowLies w' (fun b => W1.heap.size < b) (N - 1) ⟨kd, pl, nm, it, dn, ea, ec, el⟩) ∧ Hid (FarW B w l v w') ∧ Hid (Below W1.heap.size W1 w') ∧ w'.cell? ⟨B, 0, none⟩ = some (.slice (some ⟨B + 1, 0, none⟩) 1 1) ∧ w'.cell? ⟨B + 1, 6, none⟩ = some v ∧ w'.frozen? ⟨B + 1, 6, none⟩ = false ∧ B + 1 < w'.heap.size ∧ B < w'.heap.size
theorem row_far {B : Nat} {w W1 : World} {l : List Eqn} {v : Value} (h : FarW B w l v W1) (N : Nat) (hN1 : 1 ≤ N) (hN2 : N ≤ 1000) : Calls Tryd.prog 9 #[.int .i64 N] W1 fun x w' => RowPost B w l v N W1 x w' := by
  refine (row_calls N hN1 hN2 W1).mono ?_
  rintro x w' ⟨⟨kd, pl, nm, it, dn, ea, ec, el⟩, rfl, h1, h2⟩
  have h3 := h.grow h2
  have h4 := h3.size
  exact ⟨kd, pl, nm, it, dn, ea, ec, el, rfl, h1, h3, h2, h3.prog, h3.eqs, h3.froz, by omega, by omega⟩
theorem FarW.one {B : Nat} {w w3 : World} (h : FarW B w [] (.slice none 0 0) w3) (q : Eqn) (hq : farLies w3 B (.slice none 0 0) q) : FarW B w [q] (.slice (some ⟨w3.heap.size, 0, none⟩) 1 1) ((w3.setCell ⟨B + 1, 6, none⟩ (.slice (some ⟨w3.heap.size, 0, none⟩) 1 1)).alloc (.cells q.cells.toArray 36)) := by
  have hs := h.size
  have := h.more (w4 := w3.alloc (.cells q.cells.toArray 36)) rfl q hq w3.heap.size 1 (World.ownsRow_lit w3 q.cells.toArray 1 hs (by unfold maxLen; simp) (by simp [eq_cells_len])) (World.grownBy.refl _ _) (.inr (Nat.le_refl _))
  rw [World.setCell_alloc_past _ _ _ _ (show B + 1 < w3.heap.size by omega)] at this
  exact this
/-- What a row and a name make: the name ahead of the row. -/
theorem far_ahead {B : Nat} {w W0 w5 : World} {l : List Eqn} {v : Value} {N : Nat} {e : Ex} (h0 : FarW B w l v W0) (hN : N ≤ 1000) (hr : rowLies w5 (fun b => ((W0.alloc (.cells #[.string ⟨#[120]⟩] 9)).drew).heap.size < b) (N - 1) e) (hb : Below ((W0.alloc (.cells #[.string ⟨#[120]⟩] 9)).drew).heap.size ((W0.alloc (.cells #[.string ⟨#[120]⟩] 9)).drew) w5) : farLies w5 B v ⟨some ⟨W0.heap.size, 0, none⟩, 1, [⟨#[120]⟩], 0, e⟩ ∧ rowLies w5 (farFree B v) (N - 1) e := by
  have hs := h0.size
  have hz : ((W0.alloc (.cells #[.string ⟨#[120]⟩] 9)).drew).heap.size = W0.heap.size + 1 := by simp
  have hf : ∀ b, W0.heap.size ≤ b → farFree B v b := fun b hle => ⟨by omega, fun e => by have := (h0.own.lt b e.symm).2; omega⟩
  have hr' : rowLies w5 (farFree B v) (N - 1) e := rowLies_imp (fun b _ (hb : _ < b) => hf b (by omega)) _ _ hr
  refine ⟨⟨far_eq_row hr (by omega) _ _, ⟨W0.heap.size, rfl, hf _ (Nat.le_refl _), (hb.cell (p := ⟨W0.heap.size, 0, none⟩) (by show W0.heap.size < _; omega)).trans ?_⟩, _, hr'⟩, hr'⟩
  show (W0.alloc (.cells #[.string ⟨#[120]⟩] 9)).cell? ⟨W0.heap.size, 0, none⟩ = _
  rw [World.cell?_alloc_at _ _ _ _ rfl]
  rfl
/-- The name behind the row. -/
theorem far_behind {B : Nat} {w W0 w5 : World} {l : List Eqn} {v : Value} {N : Nat} {e : Ex} (h0 : FarW B w l v W0) (h5 : FarW B w l v w5) (hN : N ≤ 1000) (hr : rowLies w5 (fun b => W0.drew.heap.size < b) (N - 1) e) (hb : Below W0.drew.heap.size W0.drew w5) : farLies (w5.alloc (.cells #[.string ⟨#[120]⟩] 9)) B v ⟨some ⟨w5.heap.size, 0, none⟩, 1, [⟨#[120]⟩], 0, e⟩ ∧ rowLies (w5.alloc (.cells #[.string ⟨#[120]⟩] 9)) (farFree B v) (N - 1) e := by
  have hs := h0.size
  have hs5 := h5.size
  have hz : W0.drew.heap.size = W0.heap.size := rfl
  have hbs := hb.size
  have hf : ∀ b, W0.heap.size ≤ b → farFree B v b := fun b hle => ⟨by omega, fun e => by have := (h0.own.lt b e.symm).2; omega⟩
  have hr1 : rowLies (w5.alloc (.cells #[.string ⟨#[120]⟩] 9)) (fun b => W0.drew.heap.size < b) (N - 1) e := rowLies_keep (by simp) (fun b j _ hlt => World.cell?_of_block (Below.heap_alloc _ _ _ hlt)) _ _ hr
  have hr' : rowLies (w5.alloc (.cells #[.string ⟨#[120]⟩] 9)) (farFree B v) (N - 1) e := rowLies_imp (fun b _ (hb : _ < b) => hf b (by omega)) _ _ hr1
  refine ⟨⟨far_eq_row hr (by omega) _ _, ⟨w5.heap.size, rfl, hf _ (by omega), ?_⟩, _, hr'⟩, hr'⟩
  rw [World.cell?_alloc_at _ _ _ _ rfl]
  rfl
theorem row_after {w w' : World} {P P' : Nat → Prop} {n n' : Nat} {e : Ex} (h : rowLies w P n e) (h' : rowLies w' P' n' e) : n = n' := by
  have h1 := (rowLies_size _ _ h).1
  have h2 := (rowLies_size _ _ h').1
  omega
/-- What is asked of the world behind the region: the program of one equation of that depth. -/
def FarDeep (B : Nat) (w : World) (N : Nat) (wc : World) : Prop := ∃ q v, FarW B w [q] v wc ∧ q.e.depth = N ∧ q.e.size = N
theorem far_deep_of {B : Nat} {w w3 : World} {N : Nat} {q : Eqn} (hN : 1 ≤ N) (h : FarW B w [] (.slice none 0 0) w3) (hq : farLies w3 B (.slice none 0 0) q) (hr : rowLies w3 (farFree B (.slice none 0 0)) (N - 1) q.e) : FarDeep B w N ((w3.setCell ⟨B + 1, 6, none⟩ (.slice (some ⟨w3.heap.size, 0, none⟩) 1 1)).alloc (.cells q.cells.toArray 36)) := by
  obtain ⟨h1, h2, -⟩ := rowLies_size _ _ hr
  exact ⟨q, _, h.one q hq, by omega, by omega⟩
/-- May at a program of TreeFar. -/
theorem far_mays {B : Nat} {w wr : World} {l : List Eqn} {v : Value} (h : FarW B w l v wr) (hl : l.length ≤ 100) (hs : eqSizes l ≤ 1048576) (ht : HasTab w) (hB : B = w.heap.size) (w' : World) (hb : Below wr.heap.size wr w') : Calls Tryd.prog 10 #[.agg #[.slice (some ⟨B + 1, 0, none⟩) 1 1]] w' fun x w'' => x = .returned (.int .i64 (if 64 < eqDeep l then 41 else if 4096 < eqSizes l then 42 else 0)) ∧ Below w'.heap.size w' w'' := by
  obtain ⟨a, c, -, hlie⟩ := h.lies
  have hq : ∀ q ∈ l, farEq q := fun q hq => (h.lie q hq).1
  have := may_prog [farNd a c l] (some ⟨B + 1, 0, none⟩) 1 (far_good a c l hl hq hs) w' (hlie.below hb) (ht.below ((by rw [hB] at h; exact h.below : Below w.heap.size w wr).trans (hb.mono (by have := h.size; omega))))
  rw [far_may a c l hl hq] at this
  exact this
set_option maxRecDepth 100000 in
set_option maxHeartbeats 6400000 in
theorem far_deep (o : Int) (h1 : -128 ≤ o) (h2 : o ≤ 127) (w : World) (ht : HasTab w) : Calls Tryd.prog 3 #[.int .i8 o, .bool true] w fun x w' => x = .returned (.bool true) ∧ Below w.heap.size w w' := by
  obtain ⟨N, hN, hN1, hN2⟩ : ∃ N : Nat, max (64 + o) 1 = (N : Int) ∧ 1 ≤ N ∧ N ≤ 1000 := ⟨(max (64 + o) 1).toNat, by omega, by omega, by omega⟩
  obtain ⟨B, hB⟩ : ∃ B, B = w.heap.size := ⟨_, rfl⟩
  obtain ⟨W0, hW0⟩ : ∃ W0 : World, W0 = (w.alloc (.cells #[.slice (some ⟨w.heap.size + 1, 0, none⟩) 1 1] 25)).alloc (.cells #[.bool false, .string ⟨#[110]⟩, .int .i64 0, .slice none 0 0, .slice none 0 0, .slice none 0 0, .slice none 0 0] 29) := ⟨_, rfl⟩
  have HF : Hid (FarW B w [] (.slice none 0 0) W0) := by rw [hW0, hB]; exact far_start w
  have HW0 : Hid (_ = W0) := hW0.symm
  have HB : Hid (B = w.heap.size) := hB
  have HT : Hid (HasTab w) := ht
  clear hW0 hB ht
  go_enter Tryd.func3, Tryd.ntmps3
  go_wp2_with fail
  rw [HW0.out]
  try rw [hN]
  try rw [← HB.out]
  go_cut [] (fun wc => Hid (FarDeep B w N wc))
  case first =>
    have pc := HF.out.prog
    have hsz := HF.out.size
    have fz := HF.out.froz
    have ce := HF.out.eqs
    have b0 : B < W0.heap.size := by omega
    have b1 : B + 1 < W0.heap.size := by omega
    go_region_with (go_at_call 9; (first | refine (row_far HF.out.drew' N hN1 hN2).mono ?_ | refine (row_far (HF.out.alloc' _).drew' N hN1 hN2).mono ?_ | refine (row_far HF.out N hN1 hN2).mono ?_); rintro r w5 ⟨kd, pl, nm, it, dn, ea, ec, el, rfl, HR5, HF5, HB5, k0, k1, k2, k3, k4⟩)
    all_goals go_wp2_with fail
    all_goals go_meet
    all_goals first
      | exact far_deep_of hN1 HF5.out (far_ahead HF.out hN2 HR5.out HB5.out).1 (far_ahead HF.out hN2 HR5.out HB5.out).2
      | (rw [← World.setCell_alloc_past _ _ _ _ k3]
         have h9 := far_behind HF.out HF5.out hN2 HR5.out HB5.out
         have h8 := far_deep_of hN1 (HF5.out.alloc' _) h9.1 h9.2
         rw [show (w5.alloc (.cells #[.string ⟨#[120]⟩] 9)).heap.size = w5.heap.size + 1 by simp] at h8
         exact h8)
  case rest =>
    obtain ⟨q, v, hF, hd, hz⟩ := hcut.out
    have MM : Hid (∀ w', Below wc.heap.size wc w' → Calls Tryd.prog 10 #[.agg #[.slice (some ⟨B + 1, 0, none⟩) 1 1]] w' fun x w'' => x = .returned (.int .i64 (if 64 < N then 41 else 0)) ∧ Below w'.heap.size w' w'') := by
      intro w' hb
      have := far_mays hF (by simp) (by simp only [eqSizes, hz]; omega) HT.out HB.out w' hb
      simp only [eqDeep, eqSizes, hd, hz, Nat.max_zero, Nat.add_zero, if_neg (show ¬ 4096 < N by omega)] at this
      exact this
    have hb0 : Below w.heap.size w wc := by have := hF.below; rw [HB.out] at this; exact this
    have HBW : Hid (Below w.heap.size w wc) := hb0
    have HA : Hid (∀ w', Below wc.heap.size wc w' → Calls Tryd.prog 11 #[] w' fun x w'' => x = .returned (.bool true) ∧ Below w'.heap.size w' w'') := fun w' hb => alive_calls w' (HT.out.below (hb0.trans (hb.mono hb0.size)))
    have hsz := hF.size
    have pc := hF.prog
    have kk : Hid (∀ w', Below wc.heap.size wc w' → w'.cell? ⟨B, 0, none⟩ = some (.slice (some ⟨B + 1, 0, none⟩) 1 1)) := fun w' hb => (hb.cell (p := ⟨B, 0, none⟩) (show B < _ by omega)).trans pc
    clear hcut hF hb0
    by_cases h64 : 64 < N
    · have hle : ¬ N ≤ 64 := by omega
      have h64' : (64 : Int) < N := by omega
      have d1 : decide ((N : Int) ≤ 64) = false := decide_eq_false (by omega)
      have d2 : decide ((64 : Int) < N) = true := decide_eq_true (by omega)
      simp only [if_pos h64] at MM
      go_wp2_with (first
        | (go_at_call 10; first | (refine (MM.out _ (Below.refl _ _)).mono ?_; rintro x w1 ⟨rfl, hb1⟩; have c1 := kk.out _ hb1; have K1 : Hid _ := hb1; clear hb1) | (refine (MM.out _ K1.out).mono ?_; rintro x w2 ⟨rfl, hb2⟩; have K2 : Hid (Below wc.heap.size wc w2) := K1.out.trans (hb2.mono K1.out.size); clear hb2))
        | (go_at_call 11; refine (HA.out _ K2.out).mono ?_; rintro x w3 ⟨rfl, hb3⟩; have K3 : Hid (Below wc.heap.size wc w3) := K2.out.trans (hb3.mono K2.out.size); clear hb3))
      all_goals go_ret
      all_goals exact ⟨rfl, HBW.out.trans (K3.out.mono HBW.out.size)⟩
    · have h64' : ¬ (64 : Int) < N := by omega
      have h64'' : (N : Int) ≤ 64 := by omega
      have d1 : decide ((N : Int) ≤ 64) = true := decide_eq_true (by omega)
      have d2 : decide ((64 : Int) < N) = false := decide_eq_false (by omega)
      simp only [if_neg h64] at MM
      go_wp2_with (first
        | (go_at_call 10; first | (refine (MM.out _ (Below.refl _ _)).mono ?_; rintro x w1 ⟨rfl, hb1⟩; have c1 := kk.out _ hb1; have K1 : Hid _ := hb1; clear hb1) | (refine (MM.out _ K1.out).mono ?_; rintro x w2 ⟨rfl, hb2⟩; have K2 : Hid (Below wc.heap.size wc w2) := K1.out.trans (hb2.mono K1.out.size); clear hb2))
        | (go_at_call 11; refine (HA.out _ K2.out).mono ?_; rintro x w3 ⟨rfl, hb3⟩; have K3 : Hid (Below wc.heap.size wc w3) := K2.out.trans (hb3.mono K2.out.size); clear hb3))
      all_goals go_ret
      all_goals exact ⟨rfl, HBW.out.trans (K3.out.mono HBW.out.size)⟩
end Go.Proofs.YthbjagmlcemefaaDoor
