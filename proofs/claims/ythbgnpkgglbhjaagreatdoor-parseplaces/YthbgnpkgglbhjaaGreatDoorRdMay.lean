/- What was read, asked: may it be? -/
import Derived.Test.YthbgnpkgglbhjaaGreatDoorRdProg
import Derived.Test.YthbgnpkgglbhjaaGreatDoorRdWeigh
namespace Go.Proofs.YthbgnpkgglbhjaaGreatDoor
open Go.RowKit
open Ex.size Ex.depth Ex.lies Ex.bulk Ex.good Ex.shape Ex.bare
attribute [local go_sem] later_size later_cell later_frozen later_setCell later_drew later_drewN later_tape drewN_setCell drewN_alloc drewN_later later_later lt_more lt_more1 lt_more2 lt_more3 lt_more4 lk0_0_1 lk1_0_1 lk2_0_1 lk0_0_2 lk1_0_2 lk2_0_2 lk0_1_2 lk0_0_3 lk1_0_3 lk2_0_3 lk0_1_3 lk0_2_3 lk0_0_4 lk1_0_4 lk2_0_4 lk0_1_4 lk0_2_4 lk0_3_4 lk0_0_5 lk1_0_5 lk2_0_5 lk0_1_5 lk0_2_5 lk0_3_5 lk0_4_5 lk0_0_6 lk1_0_6 lk2_0_6 lk0_1_6 lk0_2_6 lk0_3_6 lk0_4_6 lk0_5_6 lk0_0_7 lk1_0_7 lk2_0_7 lk0_1_7 lk0_2_7 lk0_3_7 lk0_4_7 lk0_5_7 lk0_6_7
theorem bares_length (l : List Ex) : (bares l).length = l.length := by rw [bares_map, List.length_map]
theorem bare_size : ∀ e : Ex, e.bare.size = e.size
  | .mk _ _ _ _ _ _ _ l => by simp only [Ex.bare, Ex.size, all l]
where all : ∀ l : List Ex, sizes (bares l) = sizes l
  | [] => rfl
  | e :: r => by simp only [bares, sizes, bare_size e, all r]
theorem bare_depth : ∀ e : Ex, e.bare.depth = e.depth
  | .mk _ _ _ _ _ _ _ l => by simp only [Ex.bare, Ex.depth, all l]
where all : ∀ l : List Ex, deepest (bares l) = deepest l
  | [] => rfl
  | e :: r => by simp only [bares, deepest, bare_depth e, all r]
theorem bare_bulk : ∀ e : Ex, e.bare.bulk = e.bulk
  | .mk _ _ _ _ _ _ _ l => by simp only [Ex.bare, Ex.bulk, all l]
where all : ∀ l : List Ex, bulks (bares l) = bulks l
  | [] => rfl
  | e :: r => by simp only [bares, bulks, bare_bulk e, all r]
theorem bare_shape : ∀ e : Ex, e.bare.shape = e.shape
  | .mk _ _ _ _ _ _ _ l => by simp only [Ex.bare, Ex.shape, all l, bares_length]
where all : ∀ l : List Ex, shapes (bares l) = shapes l
  | [] => rfl
  | e :: r => by simp only [bares, shapes, bare_shape e, all r]
theorem eqSizes_bare (l : List Eqn) : eqSizes (l.map Eqn.bare) = eqSizes l := by
  induction l with
  | nil => rfl
  | cons q r ih => simp only [List.map_cons, eqSizes, ih, Eqn.bare, bare_size]
theorem eqDeep_bare (l : List Eqn) : eqDeep (l.map Eqn.bare) = eqDeep l := by
  induction l with
  | nil => rfl
  | cons q r ih => simp only [List.map_cons, eqDeep, ih, Eqn.bare, bare_depth]
theorem eqBulks_bare (l : List Eqn) : eqBulks (l.map Eqn.bare) = eqBulks l := by
  induction l with
  | nil => rfl
  | cons q r ih => simp only [List.map_cons, eqBulks, ih, Eqn.bare, bare_bulk]
theorem ndSizes_bare (l : List Nd) : ndSizes (l.map Nd.bare) = ndSizes l := by
  induction l with
  | nil => rfl
  | cons n r ih => simp only [List.map_cons, ndSizes, ih, Nd.bare, eqSizes_bare]
theorem ndDeep_bare (l : List Nd) : ndDeep (l.map Nd.bare) = ndDeep l := by
  induction l with
  | nil => rfl
  | cons n r ih => simp only [List.map_cons, ndDeep, ih, Nd.bare, eqDeep_bare]
theorem ndBulks_bare (l : List Nd) : ndBulks (l.map Nd.bare) = ndBulks l := by
  induction l with
  | nil => rfl
  | cons n r ih => simp only [List.map_cons, ndBulks, ih, Nd.bare, eqBulks_bare]
theorem fewB_bare (n : Nd) : fewB n.bare = fewB n := by simp only [fewB, Nd.bare, List.length_map]
theorem eqB_bare (q : Eqn) : eqB q.bare = eqB q := by
  have h : (decide (1 ≤ q.ns.length ∧ q.ns.length ≤ 32) && q.ns.all nameB && q.e.bare.shape) = (decide (1 ≤ q.ns.length ∧ q.ns.length ≤ 32) && q.ns.all nameB && q.e.shape) := by rw [bare_shape]
  exact h
theorem ndB_bare (n : Nd) : ndB n.bare = ndB n := by
  have h : (n.eqs.map Eqn.bare).all eqB = n.eqs.all eqB := by
    rw [List.all_map]
    congr 1
    exact funext eqB_bare
  simp only [ndB, Nd.bare, h]
/-- May it be: places in memory are no matter. -/
theorem may_bare (l : List Nd) : mayOf (l.map Nd.bare) = mayOf l := by
  have h1 : (l.map Nd.bare).all fewB = l.all fewB := by
    rw [List.all_map]
    congr 1
    exact funext fewB_bare
  have h2 : (l.map Nd.bare).all ndB = l.all ndB := by
    rw [List.all_map]
    congr 1
    exact funext ndB_bare
  simp only [mayOf, h1, h2, ndDeep_bare, ndSizes_bare, List.length_map]
theorem eqSizes_bulks (l : List Eqn) : eqSizes l ≤ eqBulks l := by
  induction l with
  | nil => exact Nat.le_refl _
  | cons q r ih => have := size_bulk q.e; simp only [eqSizes, eqBulks]; omega
theorem ndSizes_bulks (l : List Nd) : ndSizes l ≤ ndBulks l := by
  induction l with
  | nil => exact Nat.le_refl _
  | cons q r ih => have := eqSizes_bulks q.eqs; simp only [ndSizes, ndBulks]; omega
theorem eqBulks_mem {l : List Eqn} {q : Eqn} (h : q ∈ l) : q.e.bulk ≤ eqBulks l := by
  induction l with
  | nil => cases h
  | cons x r ih =>
    simp only [eqBulks]
    rcases List.mem_cons.1 h with rfl | h
    · omega
    · have := ih h; omega
theorem ndBulks_mem {l : List Nd} {n : Nd} (h : n ∈ l) : eqBulks n.eqs ≤ ndBulks l := by
  induction l with
  | nil => cases h
  | cons x r ih =>
    simp only [ndBulks]
    rcases List.mem_cons.1 h with rfl | h
    · omega
    · have := ih h; omega
theorem KeepsQ.refl (Q : Nat → Prop) (w : World) : KeepsQ Q w w := ⟨Nat.le_refl _, fun _ _ _ => rfl⟩
theorem rowQ_in {α β : Type} {K : Elt α β} {Q : Nat → Prop} {w : World} {a : Option Addr} {cap : Nat} {xs : List β} (h : RowQ K Q w a cap xs) : rowIn K.cells K.z w a xs := fun hne => by
  obtain ⟨g, h1, -, h2, h3⟩ := h.2.2.2.1 hne
  exact ⟨g, 0, h1, h2, fun i hi j hj => by rw [Nat.zero_add]; exact h3 i hi j hj⟩
theorem eq_lies {Q : Nat → Prop} {w : World} {q : Eqn} (h : eltQ.lies Q w q) : q.lies w := ⟨rowQ_in h.1, h.2.1 w (KeepsQ.refl Q w)⟩
theorem eq_good {Q : Nat → Prop} {w : World} {q : Eqn} (h : eltQ.lies Q w q) (hb : q.e.bulk ≤ 1048576) : q.good :=
  ⟨fun s hs => Nat.le_trans (h.1.2.2.2.2 s hs) (by decide), Nat.le_trans h.1.2.2.1 (by decide), h.2.2.1, hb⟩
theorem pms_good {Q : Nat → Prop} {w : World} {a : Option Addr} {cap : Nat} {l : List Pm} (h : RowQ eltP Q w a cap l) : l.length ≤ 1048576 ∧ ∀ p ∈ l, p.nm.size ≤ 1048576 :=
  ⟨Nat.le_trans h.2.2.1 (by decide), fun p hp => Nat.le_trans (h.2.2.2.2 p hp).1 (by decide)⟩
theorem nd_lies {Q : Nat → Prop} {w : World} {n : Nd} (h : eltN.lies Q w n) : n.lies w :=
  ⟨rowQ_in h.1, rowQ_in h.2.1, rowQ_in h.2.2.1, rowQ_in h.2.2.2.1, fun q hq => eq_lies (h.2.2.2.1.2.2.2.2 q hq)⟩
theorem nd_good {Q : Nat → Prop} {w : World} {n : Nd} (h : eltN.lies Q w n) (hb : eqBulks n.eqs ≤ 1048576) : n.good :=
  ⟨Nat.le_trans h.2.2.2.2.1 (by decide), (pms_good h.1).1, (pms_good h.2.1).1, (pms_good h.2.2.1).1, Nat.le_trans h.2.2.2.1.2.2.1 (by decide), (pms_good h.1).2, (pms_good h.2.1).2, (pms_good h.2.2.1).2, fun q hq => eq_good (h.2.2.2.1.2.2.2.2 q hq) (Nat.le_trans (eqBulks_mem hq) hb)⟩
/-- Nodes that were read lie in the world, within what is looked at. -/
theorem row_prog {Q : Nat → Prop} {w : World} {a : Option Addr} {cap : Nat} {xs : List Nd} (h : RowQ eltN Q w a cap xs) (hb : ndBulks xs ≤ 1048576) : Lie w a xs ∧ Goods xs :=
  ⟨⟨rowQ_in h, fun n hn => nd_lies (h.2.2.2.2 n hn)⟩, fun n hn => nd_good (h.2.2.2.2 n hn) (Nat.le_trans (ndBulks_mem hn) hb), Nat.le_trans h.2.2.1 (by decide), Nat.le_trans (ndSizes_bulks xs) hb⟩
theorem may_read (base : Nat) (w : World) (l : List Nd) (v : Value) (hb : ndBulks l ≤ 1048576) (hp : IsPr base w l v) (ht : HasTab w) : Calls Tryz.prog 56 #[v] w fun x w' => x = .returned (.int .i64 (mayOf l)) ∧ Below w.heap.size w w' := by
  obtain ⟨xs, a, cap, rfl, rfl, hr⟩ := hp
  rw [ndBulks_bare] at hb
  rw [may_bare]
  obtain ⟨h1, h2⟩ := row_prog hr hb
  exact may_prog xs a cap h2 w h1 ht
end Go.Proofs.YthbgnpkgglbhjaaGreatDoor
