/- The programs of TreeFar, in plain words: one node, its equations rows of nots: what May says of them. -/
import Derived.Test.YthbjagmlcemefaaDoorTreeFarRow
import Derived.Test.YthbjagmlcemefaaDoorTreeMay
namespace Go.Proofs.YthbjagmlcemefaaDoor
open Go.RowKit
open Ex.size Ex.depth Ex.lies Ex.bulk Ex.good Ex.shape
def farNd (a : Option Addr) (c : Nat) (l : List Eqn) : Nd := ⟨false, ⟨#[110]⟩, 0, none, 0, [], none, 0, [], none, 0, [], a, c, l⟩
def farEq (q : Eqn) : Prop := q.ns = [⟨#[120]⟩] ∧ q.e.shape = true ∧ q.e.good ∧ q.e.bulk ≤ 1048576
theorem name_n : nameB ⟨#[110]⟩ = true := by decide +kernel
theorem name_x : nameB ⟨#[120]⟩ = true := by decide +kernel
theorem far_eqB {q : Eqn} (h : farEq q) : eqB q = true := by
  obtain ⟨h1, h2, -, -⟩ := h
  rw [eqB, h1, h2]
  simp [name_x]
theorem far_may (a : Option Addr) (c : Nat) (l : List Eqn) (hl : l.length ≤ 100) (hq : ∀ q ∈ l, farEq q) : mayOf [farNd a c l] = if 64 < eqDeep l then 41 else if 4096 < eqSizes l then 42 else 0 := by
  have h1 : fewB (farNd a c l) = true := by
    simp only [fewB, farNd, List.length_nil]
    exact decide_eq_true ⟨by omega, by omega, by omega, by omega⟩
  have h2 : ndB (farNd a c l) = true := by
    have h3 : l.all eqB = true := List.all_eq_true.2 fun q hm => far_eqB (hq q hm)
    simp only [ndB, farNd, List.all_nil, h3, name_n, Bool.and_true]
  simp only [mayOf, List.length_cons, List.length_nil, List.all_cons, List.all_nil, h1, h2, ndDeep, ndSizes, Bool.and_true]
  simp only [farNd, Nat.max_zero, Nat.add_zero]
  simp
  try rfl
theorem far_good (a : Option Addr) (c : Nat) (l : List Eqn) (hl : l.length ≤ 100) (hq : ∀ q ∈ l, farEq q) (hs : eqSizes l ≤ 1048576) : Goods [farNd a c l] := by
  refine ⟨fun n hn => ?_, by simp, ?_⟩
  · rw [List.mem_singleton] at hn
    subst hn
    have z1 : (ByteArray.mk #[110]).size = 1 := rfl
    have z2 : (ByteArray.mk #[120]).size = 1 := rfl
    refine ⟨by simp only [farNd, z1]; omega, by simp [farNd], by simp [farNd], by simp [farNd], by simp only [farNd]; omega, by simp [farNd], by simp [farNd], by simp [farNd], fun q hm => ?_⟩
    obtain ⟨h1, h2, h3, h4⟩ := hq q hm
    refine ⟨fun s hm2 => ?_, by rw [h1]; simp, h3, h4⟩
    rw [h1, List.mem_singleton] at hm2
    subst hm2
    rw [z2]
    omega
  · simpa [ndSizes, farNd] using hs
/-- An equation made of a row. -/
theorem far_eq_row {w : World} {P : Nat → Prop} {n : Nat} {e : Ex} (h : rowLies w P n e) (hn : n ≤ 1000) (a : Option Addr) (c : Nat) : farEq ⟨a, c, [⟨#[120]⟩], 0, e⟩ := by
  obtain ⟨h1, h2, h3, h4, h5⟩ := rowLies_size n e h
  exact ⟨rfl, h3, h4, by simp only; omega⟩
theorem deep_row {w : World} {P : Nat → Prop} {n : Nat} {e : Ex} (h : rowLies w P n e) (a : Option Addr) (c : Nat) : eqDeep [⟨a, c, [⟨#[120]⟩], 0, e⟩] = n + 1 ∧ eqSizes [⟨a, c, [⟨#[120]⟩], 0, e⟩] = n + 1 := by
  obtain ⟨h1, h2, -⟩ := rowLies_size n e h
  simp [eqDeep, eqSizes, h1, h2]
/-- All cells of equations, one behind the other. -/
def flatEqs (l : List Eqn) : List Value := (l.map Eqn.cells).flatten
theorem eq_cells_len (q : Eqn) : q.cells.length = 8 := by obtain ⟨na, nc, ns, pq, ⟨kd, pl, nm, it, dn, a, c, l⟩⟩ := q; rfl
theorem flat_len (l : List Eqn) : (flatEqs l).length = l.length * 8 := by
  induction l with
  | nil => rfl
  | cons q r ih => simp only [flatEqs, List.map_cons, List.flatten_cons, List.length_append, List.length_cons, eq_cells_len] at *; omega
theorem flat_get (l : List Eqn) (i : Nat) (h : i < l.length) (j : Nat) (hj : j < 8) : (flatEqs l)[i * 8 + j]? = l[i].cells[j]? := by
  induction l generalizing i with
  | nil => simp at h
  | cons q r ih =>
    have hq := eq_cells_len q
    cases i with
    | zero => simp only [flatEqs, List.map_cons, List.flatten_cons, Nat.zero_mul, Nat.zero_add, List.getElem_cons_zero]; rw [List.getElem?_append_left (by omega)]
    | succ i =>
      have := ih i (by simpa using h)
      simp only [flatEqs, List.map_cons, List.flatten_cons, List.getElem_cons_succ] at *
      rw [List.getElem?_append_right (by omega), hq, show (i + 1) * 8 + j - 8 = i * 8 + j by omega]
      exact this
theorem flat_snoc (l : List Eqn) (q : Eqn) : flatEqs (l ++ [q]) = flatEqs l ++ q.cells := by simp [flatEqs]
def nodeCells : List Value := [.bool false, .string ⟨#[110]⟩, .int .i64 0, .slice none 0 0, .slice none 0 0, .slice none 0 0]
/-- Blocks that are neither the program's, nor its row of equations. -/
def farFree (B : Nat) (v : Value) (b : Nat) : Prop := B + 1 < b ∧ some b ≠ v.ownBlock
/-- An equation that lies behind the program's own blocks. -/
def farLies (w : World) (B : Nat) (v : Value) (q : Eqn) : Prop := farEq q ∧ (∃ b, q.na = some ⟨b, 0, none⟩ ∧ farFree B v b ∧ w.cell? ⟨b, 0, none⟩ = some (.string ⟨#[120]⟩)) ∧ ∃ n, rowLies w (farFree B v) n q.e
/-- The program as it stands at a moment. -/
structure FarW (B : Nat) (w : World) (l : List Eqn) (v : Value) (wr : World) : Prop where
  below : Below B w wr
  size : B + 2 ≤ wr.heap.size
  prog : wr.cell? ⟨B, 0, none⟩ = some (.slice (some ⟨B + 1, 0, none⟩) 1 1)
  node : ∀ j, j < 6 → wr.cell? ⟨B + 1, j, none⟩ = nodeCells[j]?
  eqs : wr.cell? ⟨B + 1, 6, none⟩ = some v
  froz : wr.frozen? ⟨B + 1, 6, none⟩ = false
  own : wr.ownsRow (B + 2) 36 8 v l.length (flatEqs l)
  lie : ∀ q ∈ l, farLies wr B v q
theorem farLies_keep {w w' : World} {B : Nat} {v : Value} {q : Eqn} (h : farLies w B v q) (hs : w.heap.size ≤ w'.heap.size) (hc : ∀ b, farFree B v b → b < w.heap.size → w'.heap[b]? = w.heap[b]?) : farLies w' B v q := by
  obtain ⟨h1, ⟨b, h2, h3, h4⟩, n, h5⟩ := h
  exact ⟨h1, ⟨b, h2, h3, (World.cell?_of_block (hc b h3 (World.block_lt_of_cell? w ⟨b, 0, none⟩ h4))).trans h4⟩, n, rowLies_keep hs (fun b j hb hlt => World.cell?_of_block (hc b hb hlt)) _ _ h5⟩
theorem ownsRow_below' {w w' : World} {B n z : Nat} {e : TypeId} {v : Value} {xs : List Value} (h : w.ownsRow B e z v n xs) (hb : Below w.heap.size w w') : w'.ownsRow B e z v n xs := by
  refine ⟨h.1, ?_⟩
  rcases h.2 with h | ⟨g, cap, cur, rfl, h1, h2, r⟩
  · exact .inl h
  · exact .inr ⟨g, cap, cur, rfl, h1, (hb.block g (lt_of_block h2)).trans h2, r⟩
theorem FarW.grow {B : Nat} {w w1 w2 : World} {l : List Eqn} {v : Value} (h : FarW B w l v w1) (hb : Below w1.heap.size w1 w2) : FarW B w l v w2 := by
  have hs := h.size
  refine ⟨h.below.trans (hb.mono (by omega)), Nat.le_trans hs hb.size, (hb.cell (p := ⟨B, 0, none⟩) (show B < _ by omega)).trans h.prog, fun j hj => (hb.cell (p := ⟨B + 1, j, none⟩) (show B + 1 < _ by omega)).trans (h.node j hj), (hb.cell (p := ⟨B + 1, 6, none⟩) (show B + 1 < _ by omega)).trans h.eqs, (hb.frozen (p := ⟨B + 1, 6, none⟩) (show B + 1 < _ by omega)).trans h.froz, ownsRow_below' h.own hb, fun q hq => farLies_keep (h.lie q hq) hb.size fun b _ hlt => hb.block b hlt⟩
/-- One equation more. -/
theorem FarW.more {B : Nat} {w w3 w4 w5 : World} {l : List Eqn} {v : Value} {o : Obj} (h : FarW B w l v w3) (h4 : w4 = w3.alloc o) (q : Eqn) (hq : farLies w3 B v q) (g cap : Nat) (hown : w5.ownsRow (B + 2) 36 8 (.slice (some ⟨g, 0, none⟩) (l.length + 1) cap) (l.length + 1) (flatEqs l ++ q.cells)) (hgr : w4.grownBy w5 v.ownBlock) (hat : v.ownBlock = some g ∨ w3.heap.size ≤ g) :
    FarW B w (l ++ [q]) (.slice (some ⟨g, 0, none⟩) (l.length + 1) cap) (w5.setCell ⟨B + 1, 6, none⟩ (.slice (some ⟨g, 0, none⟩) (l.length + 1) cap)) := by
  have hs := h.size
  have h4s : w4.heap.size = w3.heap.size + 1 := by rw [h4]; simp
  have hb4 : ∀ k, k < w3.heap.size → w4.heap[k]? = w3.heap[k]? := fun k hk => by rw [h4]; exact Below.heap_alloc _ _ _ hk
  have hvo : ∀ k, v.ownBlock = some k → B + 2 ≤ k := fun k hk => (h.own.lt k hk).1
  have hb5 : ∀ k, k < w3.heap.size → some k ≠ v.ownBlock → w5.heap[k]? = w3.heap[k]? := fun k hk hne => (hgr.block k (by omega) hne).trans (hb4 k hk)
  have nB : some B ≠ v.ownBlock := fun e => by have := hvo B e.symm; omega
  have nB1 : some (B + 1) ≠ v.ownBlock := fun e => by have := hvo (B + 1) e.symm; omega
  have hg2 : B + 2 ≤ g := by
    rcases hat with h1 | h1
    · exact hvo g h1
    · omega
  have s5 : w3.heap.size ≤ w5.heap.size := by have := hgr.size; omega
  have free : ∀ b, b < w3.heap.size → farFree B v b → farFree B (.slice (some ⟨g, 0, none⟩) (l.length + 1) cap) b := fun b hlt ⟨f1, f2⟩ => ⟨f1, fun e => by
    have e' : b = g := Option.some.inj e
    rcases hat with h1 | h1
    · exact f2 (by rw [h1, e'])
    · omega⟩
  have cell1 : w5.cell? ⟨B + 1, 6, none⟩ = some v := (World.cell?_of_block (hb5 (B + 1) (by omega) nB1)).trans h.eqs
  have lies' : ∀ q, farLies w3 B v q → farLies (w5.setCell ⟨B + 1, 6, none⟩ (.slice (some ⟨g, 0, none⟩) (l.length + 1) cap)) B (.slice (some ⟨g, 0, none⟩) (l.length + 1) cap) q := fun q hq => by
    obtain ⟨h1, ⟨b, h2, h3, h4⟩, n, h5⟩ := hq
    have hlt := World.block_lt_of_cell? w3 ⟨b, 0, none⟩ h4
    have kb : ∀ b, b < w3.heap.size → farFree B v b → (w5.setCell ⟨B + 1, 6, none⟩ (.slice (some ⟨g, 0, none⟩) (l.length + 1) cap)).heap[b]? = w3.heap[b]? := fun b hlt hf => by
      rw [Below.heap_setCell _ _ _ _ (by show b ≠ B + 1; have := hf.1; omega)]
      exact hb5 b hlt hf.2
    refine ⟨h1, ⟨b, h2, free b hlt h3, (World.cell?_of_block (kb b hlt h3)).trans h4⟩, n, ?_⟩
    have h7 : rowLies w3 (fun b => b < w3.heap.size ∧ farFree B v b) n q.e := rowLies_imp (fun b hlt hb => ⟨hlt, hb⟩) _ _ h5
    exact rowLies_imp (P := fun b => b < w3.heap.size ∧ farFree B v b) (fun b _ hb => free b hb.1 hb.2) _ _ (rowLies_keep (by simpa using s5) (fun b j hb hlt => World.cell?_of_block (kb b hlt hb.2)) _ _ h7)
  refine ⟨?_, by simp; omega, ?_, fun j hj => ?_, World.cell?_setCell_same _ _ _ cell1, ?_, ?_, fun x hx => ?_⟩
  · have hb : Below B w w5 := by
      have := (h.below.alloc (show B ≤ w3.heap.size by omega) o)
      rw [← h4] at this
      exact this.grown hgr (by omega) fun k hk => by have := hvo k hk; omega
    exact hb.setCell (p := ⟨B + 1, 6, none⟩) (show B ≤ B + 1 by omega) _
  · rw [World.cell?_setCell_other _ _ _ _ (by simp)]
    exact (World.cell?_of_block (hb5 B (by omega) nB)).trans h.prog
  · rw [World.cell?_setCell_other _ _ _ _ (by first | (simp; done) | (simp; omega))]
    exact (World.cell?_of_block (hb5 (B + 1) (by omega) nB1)).trans (h.node j hj)
  · have : w5.frozen? ⟨B + 1, 6, none⟩ = false := (World.frozen?_of_block (hb5 (B + 1) (by omega) nB1)).trans h.froz
    simpa using this
  · rw [flat_snoc, List.length_append]
    exact ownsRow_setCell_below hown (show B + 1 < B + 2 by omega) _
  · rw [List.mem_append, List.mem_singleton] at hx
    rcases hx with hx | rfl
    · exact lies' x (h.lie x hx)
    · exact lies' x hq
theorem FarW.lies {B : Nat} {w wr : World} {l : List Eqn} {v : Value} (h : FarW B w l v wr) : ∃ a c, v = .slice a l.length c ∧ Lie wr (some ⟨B + 1, 0, none⟩) [farNd a c l] := by
  have hs := h.size
  have hv : ∃ a c, v = .slice a l.length c ∧ rowIn Eqn.cells 8 wr a l := by
    rcases h.own.2 with ⟨h1, h2⟩ | ⟨g, cap, cur, rfl, h1, h2, h3⟩
    · exact ⟨none, 0, by rw [h1, h2], fun hne => absurd (List.eq_nil_of_length_eq_zero h2) hne⟩
    · exact ⟨_, cap, rfl, fun _ => ⟨g, 0, rfl, lt_of_block h2, fun i hi j hj => by
        rw [Nat.zero_add, h.own.cellAt _ (by omega)]
        exact flat_get l i hi j hj⟩⟩
  obtain ⟨a, c, rfl, hr⟩ := hv
  refine ⟨a, c, rfl, fun _ => ⟨B + 1, 0, rfl, by omega, fun i hi j hj => ?_⟩, fun n hn => ?_⟩
  · have : i = 0 := by simp only [List.length_cons, List.length_nil] at hi; omega
    subst this
    simp only [Nat.zero_mul, Nat.zero_add, List.getElem_cons_zero]
    by_cases h6 : j < 6
    · rw [h.node j h6]
      match j, h6 with
      | 0, _ => rfl
      | 1, _ => rfl
      | 2, _ => rfl
      | 3, _ => rfl
      | 4, _ => rfl
      | 5, _ => rfl
    · obtain rfl : j = 6 := by omega
      exact h.eqs
  · rw [List.mem_singleton] at hn
    subst hn
    refine ⟨fun h => absurd rfl h, fun h => absurd rfl h, fun h => absurd rfl h, hr, fun q hq => ?_⟩
    obtain ⟨h1, ⟨b, h2, h3, h4⟩, n, h5⟩ := h.lie q hq
    refine ⟨fun _ => ⟨b, 0, h2, World.block_lt_of_cell? wr ⟨b, 0, none⟩ h4, fun i hi j hj => ?_⟩, rowLies_lies _ _ h5⟩
    rw [h1.1] at hi
    simp only [List.length_cons, List.length_nil] at hi
    obtain rfl : i = 0 := by omega
    obtain rfl : j = 0 := by omega
    simp only [h1.1, List.getElem_cons_zero, textOf]
    exact h4
end Go.Proofs.YthbjagmlcemefaaDoor
