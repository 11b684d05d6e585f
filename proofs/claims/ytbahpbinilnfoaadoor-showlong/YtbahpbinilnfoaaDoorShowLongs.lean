/- The programs of ShowLong, in plain words: how long their lines and texts are, that they may be. -/
import Derived.Test.YtbahpbinilnfoaaDoorShowNodes
import Derived.Test.YtbahpbinilnfoaaDoorShowLongA
import Derived.Test.YtbahpbinilnfoaaDoorShowKit
import Derived.Deep.AppendLies
import Derived.OwnWalk
import Derived.Laws.OwnMore
import Derived.Deep.Cut
import Derived.Deep.DeepCutAuto
namespace Go.Proofs.YtbahpbinilnfoaaDoor
open Go.RowKit
open Ex.size Ex.depth Ex.lies Ex.bulk Ex.good Ex.shape Ex.text
theorem eqAB_len (na : Option Addr) {a b : Nat} (h2 : a ≤ 32) (h4 : b ≤ 32) : (eqAB na a b).text.length = a + b + 7 := by
  have k1 := nm_len h2
  have k2 := nm_len h4
  rw [eqn_text]
  have e1 : leftOf (eqAB na a b).ns = (nmOf a).data.toList := by simp [leftOf, eqAB, between, rests]
  have e2 : (eqAB na a b).e.text = (nmOf b).data.toList := by simp [eqAB, Ex.text, textBy]
  rw [e1, e2]
  simp only [List.length_append, List.length_cons, List.length_nil]
  omega
theorem leaf_shape {b : Nat} (h3 : 1 ≤ b) (h4 : b ≤ 32) : (Ex.mk 1 0 (nmOf b) 0 0 none 0 []).shape = true := by
  have h2 : argsOkB 1 0 = true := by decide +kernel
  have h5 : nameOkB 1 (nmOf b) = true := by rw [nameOkB, if_pos (Or.inl rfl)]; exact nm_ok h3 h4
  have h6 : intOkB 1 0 = true := by decide +kernel
  have h7 : denOkB 1 0 = true := by decide +kernel
  simp only [Ex.shape, shapes, List.length_nil, h2, h5, h6, h7, Bool.and_true]
theorem leaf_good {b : Nat} (h4 : b ≤ 32) : (Ex.mk 1 0 (nmOf b) 0 0 none 0 []).good := by
  have h1 := nm_size h4
  have h2 : (Lit.int .u8 1).wf = true := by decide
  have h3 : (Lit.int .i64 0).wf = true := by decide
  have h5 : (32 : Nat) ≤ maxLen := by decide +kernel
  simp only [Ex.good, goods, List.length_nil, and_true]
  exact ⟨h2, h3, by omega, h3, h3, Nat.le_refl _, Nat.zero_le _⟩
theorem leaf_bulk {b : Nat} (h4 : b ≤ 32) : (Ex.mk 1 0 (nmOf b) 0 0 none 0 []).bulk ≤ 1048576 := by
  have h1 := nm_size h4
  simp only [Ex.bulk, bulks]
  omega
theorem long_eqB {q : Eqn} (h : longEq q) : eqB q = true := by
  obtain ⟨na, a, b, h1, h2, h3, h4, rfl⟩ := h
  rw [eqB]
  simp only [eqAB, List.length_cons, List.length_nil, List.all_cons, List.all_nil, nm_ok h1 h2, leaf_shape h3 h4, Bool.and_true]
  rfl
theorem long_eq_good {q : Eqn} (h : longEq q) : q.good ∧ q.ns.length ≤ q.nc ∧ q.e.size = 1 ∧ q.e.depth = 1 := by
  obtain ⟨na, a, b, h1, h2, h3, h4, rfl⟩ := h
  refine ⟨⟨fun s hs => ?_, by simp [eqAB], leaf_good h4, leaf_bulk h4⟩, by simp [eqAB], by simp [eqAB, Ex.size, sizes], by simp [eqAB, Ex.depth, deepest]⟩
  simp only [eqAB, List.mem_singleton] at hs
  rw [hs, nm_size h2]
  omega
theorem long_eqs_size {l : List Eqn} (h : ∀ q ∈ l, longEq q) : eqSizes l = l.length ∧ eqDeep l ≤ 1 := by
  induction l with
  | nil => simp [eqSizes, eqDeep]
  | cons q r ih =>
    obtain ⟨i1, i2⟩ := ih fun x hx => h x (by simp [hx])
    obtain ⟨-, -, g1, g2⟩ := long_eq_good (h q (by simp))
    simp only [eqSizes, eqDeep, List.length_cons, g1, g2, i1]
    omega
theorem ndOf_len (a : Option Addr) (c : Nat) (l : List Eqn) : (ndOf a c l).text.length = 28 + (eqsText l).length := by
  simp only [Nd.text, ndOf, pmsText, List.map_nil, between, if_pos, Bool.false_eq_true, if_false, List.length_append, List.length_cons, List.length_nil]
  omega
theorem eqsText_snoc (l : List Eqn) (q : Eqn) : (eqsText (l ++ [q])).length = (eqsText l).length + q.text.length := by simp [eqsText]
theorem ndsText_snoc (l : List Nd) (n : Nd) : (ndsText (l ++ [n])).length = (ndsText l).length + n.text.length := by simp [ndsText]
theorem long_few {n : Nd} (h : longNd n) : fewB n = true := by
  obtain ⟨a, c, l, rfl, h1, h2⟩ := h
  simp only [fewB, ndOf, List.length_nil]
  exact decide_eq_true ⟨by omega, by omega, by omega, by omega⟩
theorem name_n1 : nameB ⟨#[110]⟩ = true := by decide +kernel
theorem long_ndB {n : Nd} (h : longNd n) : ndB n = true := by
  obtain ⟨a, c, l, rfl, h1, h2⟩ := h
  have h3 : l.all eqB = true := List.all_eq_true.2 fun q hm => long_eqB (h2 q hm)
  simp only [ndB, ndOf, List.all_nil, h3, name_n1, Bool.and_true]
theorem long_nds_size {l : List Nd} (h : ∀ n ∈ l, longNd n) : ndSizes l ≤ 100 * l.length ∧ ndDeep l ≤ 1 := by
  induction l with
  | nil => simp [ndSizes, ndDeep]
  | cons n r ih =>
    obtain ⟨i1, i2⟩ := ih fun x hx => h x (by simp [hx])
    obtain ⟨a, c, l, rfl, h1, h2⟩ := h n (by simp)
    obtain ⟨g1, g2⟩ := long_eqs_size h2
    simp only [ndSizes, ndDeep, ndOf, List.length_cons, g1]
    omega
theorem long_may {l : List Nd} (h : ∀ n ∈ l, longNd n) (hl : l.length ≤ 10) : mayOf l = 0 := by
  obtain ⟨g1, g2⟩ := long_nds_size h
  have h1 : (decide (l.length ≤ 64) && l.all fewB) = true := by
    rw [Bool.and_eq_true]
    exact ⟨decide_eq_true (by omega), List.all_eq_true.2 fun n hn => long_few (h n hn)⟩
  have h2 : l.all ndB = true := List.all_eq_true.2 fun n hn => long_ndB (h n hn)
  rw [mayOf, h1, h2, if_neg (by decide), if_neg (by decide), if_neg (by omega), if_neg (by omega)]
theorem long_goods {l : List Nd} (h : ∀ n ∈ l, longNd n) (hl : l.length ≤ 10) : Goods l ∧ ∀ n ∈ l, n.nums := by
  obtain ⟨g1, g2⟩ := long_nds_size h
  refine ⟨⟨fun n hn => ?_, by omega, by omega⟩, fun n hn => ?_⟩
  · obtain ⟨a, c, l, rfl, h1, h2⟩ := h n hn
    have z1 : (ByteArray.mk #[110]).size = 1 := rfl
    exact ⟨by simp only [ndOf, z1]; omega, by simp [ndOf], by simp [ndOf], by simp [ndOf], by simp only [ndOf]; omega, by simp [ndOf], by simp [ndOf], by simp [ndOf], fun q hm => (long_eq_good (h2 q hm)).1⟩
  · obtain ⟨a, c, l, rfl, h1, h2⟩ := h n hn
    exact ⟨fun p hp => (by cases hp), fun p hp => (by cases hp), fun p hp => (by cases hp), fun q hq => (long_eq_good (h2 q hq)).2.1⟩
/-- What is answered for a program of so many bytes. -/
theorem long_out {l : List Nd} (h : ∀ n ∈ l, longNd n) (hl : l.length ≤ 10) : progOut l = outOf (ndsText l) := by
  rw [progOut, if_pos (long_may h hl)]
end Go.Proofs.YtbahpbinilnfoaaDoor
/- The statement ShowLong: rows of equations, rows of nodes, as they are made. -/
namespace Go.Proofs.YtbahpbinilnfoaaDoor
open Go.RowKit
open Ex.size Ex.depth Ex.lies Ex.bulk Ex.good Ex.shape Ex.text
/-- All cells of a row, one behind the other. -/
def flatOf {α : Type} (f : α → List Value) (l : List α) : List Value := (l.map f).flatten
theorem flatOf_len {α : Type} {f : α → List Value} {z : Nat} (hf : ∀ x, (f x).length = z) (l : List α) : (flatOf f l).length = l.length * z := by
  induction l with
  | nil => simp [flatOf]
  | cons q r ih => simp only [flatOf, List.map_cons, List.flatten_cons, List.length_append, List.length_cons, hf, Nat.succ_mul] at *; omega
theorem flatOf_get {α : Type} {f : α → List Value} {z : Nat} (hf : ∀ x, (f x).length = z) (l : List α) (i : Nat) (h : i < l.length) (j : Nat) (hj : j < z) : (flatOf f l)[i * z + j]? = (f l[i])[j]? := by
  induction l generalizing i with
  | nil => simp at h
  | cons q r ih =>
    have hq := hf q
    cases i with
    | zero => simp only [flatOf, List.map_cons, List.flatten_cons, Nat.zero_mul, Nat.zero_add, List.getElem_cons_zero]; rw [List.getElem?_append_left (by omega)]
    | succ i =>
      have := ih i (by simpa using h)
      simp only [flatOf, List.map_cons, List.flatten_cons, List.getElem_cons_succ] at *
      rw [List.getElem?_append_right (by rw [Nat.succ_mul]; omega), hq, show (i + 1) * z + j - z = i * z + j by rw [Nat.succ_mul]; omega]
      exact this
theorem flatOf_snoc {α : Type} {f : α → List Value} (l : List α) (q : α) : flatOf f (l ++ [q]) = flatOf f l ++ f q := by simp [flatOf]
theorem eqn_cells_len (q : Eqn) : q.cells.length = 8 := by obtain ⟨na, nc, ns, pq, ⟨kd, pl, nm, it, dn, a, c, l⟩⟩ := q; rfl
theorem nd_cells_len (n : Nd) : n.cells.length = 7 := rfl
def nodeHead : List Value := [.bool false, .string ⟨#[110]⟩, .int .i64 0, .slice none 0 0, .slice none 0 0, .slice none 0 0]
/-- Blocks behind, but a row's own. -/
def freeOf (B : Nat) (v : Value) (b : Nat) : Prop := B < b ∧ some b ≠ v.ownBlock
/-- An equation whose name lies in such a block. -/
def eqLies (w : World) (P : Nat → Prop) (q : Eqn) : Prop := longEq q ∧ ∃ b s, q.na = some ⟨b, 0, none⟩ ∧ q.ns = [s] ∧ P b ∧ w.cell? ⟨b, 0, none⟩ = some (.string s)
theorem eqLies_keep {w w' : World} {P P' : Nat → Prop} {q : Eqn} (h : eqLies w P q) (hc : ∀ b, P b → b < w.heap.size → w'.heap[b]? = w.heap[b]? ∧ P' b) : eqLies w' P' q := by
  obtain ⟨h1, b, s, h2, h3, h4, h5⟩ := h
  obtain ⟨k1, k2⟩ := hc b h4 (World.block_lt_of_cell? w ⟨b, 0, none⟩ h5)
  exact ⟨h1, b, s, h2, h3, k2, (World.cell?_of_block k1).trans h5⟩
def ndLies (w : World) (P : Nat → Prop) (n : Nd) : Prop := ∃ a c l, n = ndOf a c l ∧ l.length ≤ 100 ∧ (∀ q ∈ l, eqLies w P q) ∧ (l ≠ [] → ∃ b, a = some ⟨b, 0, none⟩ ∧ P b ∧ b < w.heap.size ∧ rowAt Eqn.cells 8 w b 0 l)
theorem ndLies_keep {w w' : World} {P P' : Nat → Prop} {n : Nd} (h : ndLies w P n) (hs : w.heap.size ≤ w'.heap.size) (hc : ∀ b, P b → b < w.heap.size → w'.heap[b]? = w.heap[b]? ∧ P' b) : ndLies w' P' n := by
  obtain ⟨a, c, l, h1, h2, h3, h4⟩ := h
  refine ⟨a, c, l, h1, h2, fun q hq => eqLies_keep (h3 q hq) hc, fun hne => ?_⟩
  obtain ⟨b, k1, k2, k3, k4⟩ := h4 hne
  obtain ⟨j1, j2⟩ := hc b k2 k3
  exact ⟨b, k1, j2, Nat.lt_of_lt_of_le k3 hs, fun i hi j hj => (World.cell?_of_block j1).trans (k4 i hi j hj)⟩
theorem ownsRow_kept {w w' : World} {B n z : Nat} {e : TypeId} {v : Value} {xs : List Value} (h : w.ownsRow B e z v n xs) (hb : Below w.heap.size w w') : w'.ownsRow B e z v n xs := by
  refine ⟨h.1, ?_⟩
  rcases h.2 with h | ⟨g, cap, cur, rfl, h1, h2, r⟩
  · exact .inl h
  · exact .inr ⟨g, cap, cur, rfl, h1, (hb.block g (lt_of_block h2)).trans h2, r⟩
theorem rowIn_own {α : Type} {f : α → List Value} {z : Nat} (hf : ∀ x, (f x).length = z) {w : World} {B : Nat} {e : TypeId} {v : Value} {l : List α} (h : w.ownsRow B e z v l.length (flatOf f l)) : ∃ a c, v = .slice a l.length c ∧ (l ≠ [] → ∃ b, a = some ⟨b, 0, none⟩ ∧ B ≤ b ∧ b < w.heap.size ∧ rowAt f z w b 0 l) := by
  rcases h.2 with ⟨h1, h2⟩ | ⟨g, cap, cur, rfl, h1, h2, h3⟩
  · exact ⟨none, 0, by rw [h1, h2], fun hne => absurd (List.eq_nil_of_length_eq_zero h2) hne⟩
  · exact ⟨_, cap, rfl, fun _ => ⟨g, rfl, h1, lt_of_block h2, fun i hi j hj => by
      have : i * z + j < l.length * z := by
        have : (i + 1) * z ≤ l.length * z := Nat.mul_le_mul_right _ hi
        rw [Nat.succ_mul] at this
        omega
      rw [Nat.zero_add, h.cellAt _ this]
      exact flatOf_get hf l i hi j hj⟩⟩
/-- The node at hand: its block S, its row of equations v. -/
structure InW (S : Nat) (w : World) (l : List Eqn) (v : Value) (wr : World) : Prop where
  below : Below S w wr
  size : S + 1 ≤ wr.heap.size
  node : ∀ j, j < 6 → wr.cell? ⟨S, j, none⟩ = nodeHead[j]?
  eqs : wr.cell? ⟨S, 6, none⟩ = some v
  froz : wr.frozen? ⟨S, 6, none⟩ = false
  own : wr.ownsRow (S + 1) 43 8 v l.length (flatOf Eqn.cells l)
  lie : ∀ q ∈ l, eqLies wr (freeOf S v) q
theorem InW.grow {S : Nat} {w w1 w2 : World} {l : List Eqn} {v : Value} (h : InW S w l v w1) (hb : Below w1.heap.size w1 w2) : InW S w l v w2 := by
  have hs := h.size
  refine ⟨h.below.trans (hb.mono (by omega)), Nat.le_trans hs hb.size, fun j hj => (hb.cell (p := ⟨S, j, none⟩) (show S < _ by omega)).trans (h.node j hj), (hb.cell (p := ⟨S, 6, none⟩) (show S < _ by omega)).trans h.eqs, (hb.frozen (p := ⟨S, 6, none⟩) (show S < _ by omega)).trans h.froz, ownsRow_kept h.own hb, fun q hq => eqLies_keep (h.lie q hq) fun b hb' hlt => ⟨hb.block b hlt, hb'⟩⟩
/-- One equation more. -/
theorem InW.more {S : Nat} {w w3 w4 w5 : World} {l : List Eqn} {v : Value} {o : Obj} (h : InW S w l v w3) (h4 : w4 = w3.alloc o) (q : Eqn) (hq : eqLies w3 (freeOf S v) q) (g cap : Nat) (hown : w5.ownsRow (S + 1) 43 8 (.slice (some ⟨g, 0, none⟩) (l.length + 1) cap) (l.length + 1) (flatOf Eqn.cells l ++ q.cells)) (hgr : w4.grownBy w5 v.ownBlock) (hat : v.ownBlock = some g ∨ w3.heap.size ≤ g) :
    InW S w (l ++ [q]) (.slice (some ⟨g, 0, none⟩) (l.length + 1) cap) (w5.setCell ⟨S, 6, none⟩ (.slice (some ⟨g, 0, none⟩) (l.length + 1) cap)) := by
  have hs := h.size
  have h4s : w4.heap.size = w3.heap.size + 1 := by rw [h4]; simp
  have hb4 : ∀ k, k < w3.heap.size → w4.heap[k]? = w3.heap[k]? := fun k hk => by rw [h4]; exact Below.heap_alloc _ _ _ hk
  have hvo : ∀ k, v.ownBlock = some k → S + 1 ≤ k := fun k hk => (h.own.lt k hk).1
  have hb5 : ∀ k, k < w3.heap.size → some k ≠ v.ownBlock → w5.heap[k]? = w3.heap[k]? := fun k hk hne => (hgr.block k (by omega) hne).trans (hb4 k hk)
  have nS : some S ≠ v.ownBlock := fun e => by have := hvo S e.symm; omega
  have hg2 : S + 1 ≤ g := by
    rcases hat with h1 | h1
    · exact hvo g h1
    · omega
  have s5 : w3.heap.size ≤ w5.heap.size := by have := hgr.size; omega
  have free : ∀ b, b < w3.heap.size → freeOf S v b → freeOf S (.slice (some ⟨g, 0, none⟩) (l.length + 1) cap) b := fun b hlt ⟨f1, f2⟩ => ⟨f1, fun e => by
    have e' : b = g := Option.some.inj e
    rcases hat with h1 | h1
    · exact f2 (by rw [h1, e'])
    · omega⟩
  have cell1 : w5.cell? ⟨S, 6, none⟩ = some v := (World.cell?_of_block (hb5 S (by omega) nS)).trans h.eqs
  have lies' : ∀ q, eqLies w3 (freeOf S v) q → eqLies (w5.setCell ⟨S, 6, none⟩ (.slice (some ⟨g, 0, none⟩) (l.length + 1) cap)) (freeOf S (.slice (some ⟨g, 0, none⟩) (l.length + 1) cap)) q := fun q hq =>
    eqLies_keep hq fun b hb hlt => ⟨by rw [Below.heap_setCell _ _ _ _ (by show b ≠ S; have := hb.1; omega)]; exact hb5 b hlt hb.2, free b hlt hb⟩
  refine ⟨?_, by simp; omega, fun j hj => ?_, World.cell?_setCell_same _ _ _ cell1, ?_, ?_, fun x hx => ?_⟩
  · have hb : Below S w w5 := by
      have := (h.below.alloc (show S ≤ w3.heap.size by omega) o)
      rw [← h4] at this
      exact this.grown hgr (by omega) fun k hk => by have := hvo k hk; omega
    exact hb.setCell (p := ⟨S, 6, none⟩) (Nat.le_refl _) _
  · rw [World.cell?_setCell_other _ _ _ _ (by first | (simp; done) | (simp; omega))]
    exact (World.cell?_of_block (hb5 S (by omega) nS)).trans (h.node j hj)
  · have : w5.frozen? ⟨S, 6, none⟩ = false := (World.frozen?_of_block (hb5 S (by omega) nS)).trans h.froz
    simpa using this
  · rw [flatOf_snoc, List.length_append]
    exact ownsRow_setCell_below hown (show S < S + 1 by omega) _
  · rw [List.mem_append, List.mem_singleton] at hx
    rcases hx with hx | rfl
    · exact lies' x (h.lie x hx)
    · exact lies' x hq
/-- The node as it is when its equations are all there. -/
theorem InW.done {S : Nat} {w wr : World} {l : List Eqn} {v : Value} (h : InW S w l v wr) (hl : l.length ≤ 100) : ∃ a c, v = .slice a l.length c ∧ ndLies wr (fun b => S < b) (ndOf a c l) := by
  obtain ⟨a, c, h1, h2⟩ := rowIn_own eqn_cells_len h.own
  refine ⟨a, c, h1, a, c, l, rfl, hl, fun q hq => eqLies_keep (h.lie q hq) fun b hb _ => ⟨rfl, hb.1⟩, fun hne => ?_⟩
  obtain ⟨b, k1, k2, k3, k4⟩ := h2 hne
  exact ⟨b, k1, k2, k3, k4⟩
/-- The program at hand: its block B, its row of nodes v. -/
structure OutW (B : Nat) (w : World) (l : List Nd) (v : Value) (wr : World) : Prop where
  below : Below B w wr
  size : B + 1 ≤ wr.heap.size
  prog : wr.cell? ⟨B, 0, none⟩ = some v
  froz : wr.frozen? ⟨B, 0, none⟩ = false
  own : wr.ownsRow (B + 1) 37 7 v l.length (flatOf Nd.cells l)
  lie : ∀ n ∈ l, ndLies wr (freeOf B v) n
theorem OutW.grow {B : Nat} {w w1 w2 : World} {l : List Nd} {v : Value} (h : OutW B w l v w1) (hb : Below w1.heap.size w1 w2) : OutW B w l v w2 := by
  have hs := h.size
  refine ⟨h.below.trans (hb.mono (by omega)), Nat.le_trans hs hb.size, (hb.cell (p := ⟨B, 0, none⟩) (show B < _ by omega)).trans h.prog, (hb.frozen (p := ⟨B, 0, none⟩) (show B < _ by omega)).trans h.froz, ownsRow_kept h.own hb, fun q hq => ndLies_keep (h.lie q hq) hb.size fun b hb' hlt => ⟨hb.block b hlt, hb'⟩⟩
/-- One node more. -/
theorem OutW.more {B : Nat} {w w3 w4 w5 : World} {l : List Nd} {v : Value} {o : Obj} (h : OutW B w l v w3) (h4 : w4 = w3.alloc o) (q : Nd) (hq : ndLies w3 (freeOf B v) q) (g cap : Nat) (hown : w5.ownsRow (B + 1) 37 7 (.slice (some ⟨g, 0, none⟩) (l.length + 1) cap) (l.length + 1) (flatOf Nd.cells l ++ q.cells)) (hgr : w4.grownBy w5 v.ownBlock) (hat : v.ownBlock = some g ∨ w3.heap.size ≤ g) :
    OutW B w (l ++ [q]) (.slice (some ⟨g, 0, none⟩) (l.length + 1) cap) (w5.setCell ⟨B, 0, none⟩ (.slice (some ⟨g, 0, none⟩) (l.length + 1) cap)) := by
  have hs := h.size
  have h4s : w4.heap.size = w3.heap.size + 1 := by rw [h4]; simp
  have hb4 : ∀ k, k < w3.heap.size → w4.heap[k]? = w3.heap[k]? := fun k hk => by rw [h4]; exact Below.heap_alloc _ _ _ hk
  have hvo : ∀ k, v.ownBlock = some k → B + 1 ≤ k := fun k hk => (h.own.lt k hk).1
  have hb5 : ∀ k, k < w3.heap.size → some k ≠ v.ownBlock → w5.heap[k]? = w3.heap[k]? := fun k hk hne => (hgr.block k (by omega) hne).trans (hb4 k hk)
  have nB : some B ≠ v.ownBlock := fun e => by have := hvo B e.symm; omega
  have hg2 : B + 1 ≤ g := by
    rcases hat with h1 | h1
    · exact hvo g h1
    · omega
  have s5 : w3.heap.size ≤ w5.heap.size := by have := hgr.size; omega
  have free : ∀ b, b < w3.heap.size → freeOf B v b → freeOf B (.slice (some ⟨g, 0, none⟩) (l.length + 1) cap) b := fun b hlt ⟨f1, f2⟩ => ⟨f1, fun e => by
    have e' : b = g := Option.some.inj e
    rcases hat with h1 | h1
    · exact f2 (by rw [h1, e'])
    · omega⟩
  have cell1 : w5.cell? ⟨B, 0, none⟩ = some v := (World.cell?_of_block (hb5 B (by omega) nB)).trans h.prog
  have lies' : ∀ q, ndLies w3 (freeOf B v) q → ndLies (w5.setCell ⟨B, 0, none⟩ (.slice (some ⟨g, 0, none⟩) (l.length + 1) cap)) (freeOf B (.slice (some ⟨g, 0, none⟩) (l.length + 1) cap)) q := fun q hq =>
    ndLies_keep hq (by simp; omega) fun b hb hlt => ⟨by rw [Below.heap_setCell _ _ _ _ (by show b ≠ B; have := hb.1; omega)]; exact hb5 b hlt hb.2, free b hlt hb⟩
  refine ⟨?_, by simp; omega, World.cell?_setCell_same _ _ _ cell1, ?_, ?_, fun x hx => ?_⟩
  · have hb : Below B w w5 := by
      have := (h.below.alloc (show B ≤ w3.heap.size by omega) o)
      rw [← h4] at this
      exact this.grown hgr (by omega) fun k hk => by have := hvo k hk; omega
    exact hb.setCell (p := ⟨B, 0, none⟩) (Nat.le_refl _) _
  · have : w5.frozen? ⟨B, 0, none⟩ = false := (World.frozen?_of_block (hb5 B (by omega) nB)).trans h.froz
    simpa using this
  · rw [flatOf_snoc, List.length_append]
    exact ownsRow_setCell_below hown (show B < B + 1 by omega) _
  · rw [List.mem_append, List.mem_singleton] at hx
    rcases hx with hx | rfl
    · exact lies' x (h.lie x hx)
    · exact lies' x hq
theorem eqLies_lies {w : World} {P : Nat → Prop} {q : Eqn} (h : eqLies w P q) : q.lies w := by
  obtain ⟨⟨na, a, b, -, -, -, -, rfl⟩, b0, s, h2, h3, h4, h5⟩ := h
  refine ⟨fun _ => ⟨b0, 0, h2, World.block_lt_of_cell? w ⟨b0, 0, none⟩ h5, fun i hi j hj => ?_⟩, ⟨0, 0, fun h => absurd rfl h, trivial⟩⟩
  simp only [eqAB, List.length_cons, List.length_nil] at hi h3
  obtain rfl : i = 0 := by omega
  obtain rfl : j = 0 := by omega
  simp only [List.cons.injEq, and_true] at h3
  simp only [eqAB, List.getElem_cons_zero, textOf, h3]
  exact h5
theorem ndLies_lies {w : World} {P : Nat → Prop} {n : Nd} (h : ndLies w P n) : n.lies w ∧ longNd n := by
  obtain ⟨a, c, l, rfl, h2, h3, h4⟩ := h
  refine ⟨⟨fun h => absurd rfl h, fun h => absurd rfl h, fun h => absurd rfl h, fun hne => ?_, fun q hq => eqLies_lies (h3 q hq)⟩, a, c, l, rfl, h2, fun q hq => (h3 q hq).1⟩
  obtain ⟨b, k1, -, k3, k4⟩ := h4 hne
  exact ⟨b, 0, k1, k3, k4⟩
theorem OutW.lies {B : Nat} {w wr : World} {l : List Nd} {v : Value} (h : OutW B w l v wr) : ∃ a c, v = .slice a l.length c ∧ (rowIn Nd.cells 7 wr a l ∧ ∀ n ∈ l, n.lies wr) ∧ ∀ n ∈ l, longNd n := by
  obtain ⟨a, c, h1, h2⟩ := rowIn_own nd_cells_len h.own
  refine ⟨a, c, h1, ⟨fun hne => ?_, fun n hn => (ndLies_lies (h.lie n hn)).1⟩, fun n hn => (ndLies_lies (h.lie n hn)).2⟩
  obtain ⟨b, k1, k2, k3, k4⟩ := h2 hne
  exact ⟨b, 0, k1, k3, k4⟩
end Go.Proofs.YtbahpbinilnfoaaDoor
/- The statement ShowLong: the program that is made. -/
namespace Go.Proofs.YtbahpbinilnfoaaDoor
open Go.RowKit
open Ex.size Ex.depth Ex.lies Ex.bulk Ex.good Ex.shape Ex.text
attribute [local go_sem] later_size later_cell later_frozen later_setCell later_drew later_drewN later_tape drewN_setCell drewN_alloc drewN_later later_later lt_more lt_more1 lt_more2 lt_more3 lt_more4 lk0_0_1 lk1_0_1 lk2_0_1 lk0_0_2 lk1_0_2 lk2_0_2 lk0_1_2 lk0_0_3 lk1_0_3 lk2_0_3 lk0_1_3 lk0_2_3 lk0_0_4 lk1_0_4 lk2_0_4 lk0_1_4 lk0_2_4 lk0_3_4 lk0_0_5 lk1_0_5 lk2_0_5 lk0_1_5 lk0_2_5 lk0_3_5 lk0_4_5 lk0_0_6 lk1_0_6 lk2_0_6 lk0_1_6 lk0_2_6 lk0_3_6 lk0_4_6 lk0_5_6 lk0_0_7 lk1_0_7 lk2_0_7 lk0_1_7 lk0_2_7 lk0_3_7 lk0_4_7 lk0_5_7 lk0_6_7
theorem Tryd.infoEqn : (Tryd.prog.info? 43).map (fun i => (i.zero, i.size, i.bytes)) = some (some (.agg #[.slice none 0 0, .int .i64 0, .int .u8 0, .int .i64 0, .string ⟨#[]⟩, .int .i64 0, .int .i64 0, .slice none 0 0]), 8, 104) := by kernel_rfl
theorem Tryd.infoNode : (Tryd.prog.info? 37).map (fun i => (i.zero, i.size, i.bytes)) = some (some (.agg #[.bool false, .string ⟨#[]⟩, .int .i64 0, .slice none 0 0, .slice none 0 0, .slice none 0 0, .slice none 0 0]), 7, 128) := by kernel_rfl
theorem eqn_one (q : Eqn) : ∀ u ∈ q.cells, u.oneCell' = true := by
  obtain ⟨na, nc, ns, pq, ⟨kd, pl, nm, it, dn, a, c, l⟩⟩ := q
  intro u hu
  simp only [Eqn.cells, Ex.cells, List.mem_cons, List.not_mem_nil, or_false] at hu
  rcases hu with rfl | rfl | rfl | rfl | rfl | rfl | rfl | rfl <;> rfl
theorem nd_one (q : Nd) : ∀ u ∈ q.cells, u.oneCell' = true := by
  intro u hu
  simp only [Nd.cells, List.mem_cons, List.not_mem_nil, or_false] at hu
  rcases hu with rfl | rfl | rfl | rfl | rfl | rfl | rfl <;> rfl
theorem news_at (w : World) (cs : List Value) (t : TypeId) : ∀ j u, cs[j]? = some u → (w.alloc (.cells cs.toArray t)).cell? ((⟨w.heap.size, 0, none⟩ : Addr).add j) = some u := fun j u hj => by
  rw [← hj]
  have : (⟨w.heap.size, 0, none⟩ : Addr).add j = ⟨w.heap.size, j, none⟩ := by unfold Addr.add; split <;> simp_all
  rw [this]
  exact cell_alloc_eq rfl
/-- An equation that is made, by its line's length. -/
theorem eq_line (k : Nat) (h1 : 9 ≤ k) (h2 : k ≤ 71) (w : World) : Calls Tryd.prog 8 #[.int .i64 k] w fun x w' => ∃ c a b, x = .returned (.agg #[.slice (some ⟨c, 0, none⟩) 1 1, .int .i64 0, .int .u8 1, .int .i64 0, .string (nmOf b), .int .i64 0, .int .i64 0, .slice none 0 0]) ∧ (1 ≤ a ∧ a ≤ 32 ∧ 1 ≤ b ∧ b ≤ 32 ∧ a + b + 7 = k) ∧ w.heap.size ≤ c ∧ w'.cell? ⟨c, 0, none⟩ = some (.string (nmOf a)) ∧ Below w.heap.size w w' := by
  obtain ⟨a, b, g1, g2, g3⟩ : ∃ a b : Nat, ((k : Int) - 7 - a = b) ∧ min ((k : Int) - 8) 32 = a ∧ (1 ≤ a ∧ a ≤ 32 ∧ 1 ≤ b ∧ b ≤ 32 ∧ a + b + 7 = k) := by
    by_cases h : k ≤ 40
    · exact ⟨k - 8, 1, by omega, by omega, by omega⟩
    · exact ⟨32, k - 39, by omega, by omega, by omega⟩
  refine (eq_calls k a b g1 g2 h1 h2 g3.2.2.2.1 w).mono ?_
  rintro x w' ⟨c, e1, e2, e3, e4⟩
  exact ⟨c, a, b, e1, g3, e2, e3, e4⟩
theorem in_after {S : Nat} {w w3 w6 : World} {l : List Eqn} {v : Value} {ob : Obj} (h : InW S w l v w3) (hg : (w3.alloc ob).grownBy w6 v.ownBlock) : w6.cell? ⟨S, 6, none⟩ = some v ∧ w6.frozen? ⟨S, 6, none⟩ = false ∧ S < w6.heap.size := by
  have hs := h.size
  have hvo : ∀ k, v.ownBlock = some k → S + 1 ≤ k := fun k hk => (h.own.lt k hk).1
  have k1 : w6.heap[S]? = w3.heap[S]? := (hg.block S (by simp; omega) fun e => by have := hvo S e.symm; omega).trans (Below.heap_alloc _ _ _ (by omega))
  have hz := hg.size
  simp only [World.alloc, Array.size_push] at hz
  exact ⟨(World.cell?_of_block k1).trans h.eqs, (World.frozen?_of_block k1).trans h.froz, by omega⟩
theorem out_after {S : Nat} {w w3 w6 : World} {l : List Nd} {v : Value} {ob : Obj} (h : OutW S w l v w3) (hg : (w3.alloc ob).grownBy w6 v.ownBlock) : w6.cell? ⟨S, 0, none⟩ = some v ∧ w6.frozen? ⟨S, 0, none⟩ = false ∧ S < w6.heap.size := by
  have hs := h.size
  have hvo : ∀ k, v.ownBlock = some k → S + 1 ≤ k := fun k hk => (h.own.lt k hk).1
  have k1 : w6.heap[S]? = w3.heap[S]? := (hg.block S (by simp; omega) fun e => by have := hvo S e.symm; omega).trans (Below.heap_alloc _ _ _ (by omega))
  have hz := hg.size
  simp only [World.alloc, Array.size_push] at hz
  exact ⟨(World.cell?_of_block k1).trans h.prog, (World.frozen?_of_block k1).trans h.froz, by omega⟩
/-- The node at hand, by what is left of the text: p nodes stand ahead. -/
def InG (S : Nat) (wS : World) (M p : Nat) (wr : World) (n : Nat) : Prop := ∃ l v, InW S wS l v wr ∧ l.length ≤ 100 ∧ (eqsText l).length + n = M ∧ (p < 9 → n + 71 * l.length = M) ∧ (p = 9 → 32 * l.length + n ≤ 1483 ∧ (n = 0 ∨ 32 ≤ n))
theorem in_more {S : Nat} {wS w w3 w5 : World} {M p n k c a b : Nat} {l : List Eqn} {v : Value} {t : TypeId} (h : InW S wS l v w) (hb : Below w.heap.size w w3) (hl : l.length < 100) (e1 : (eqsText l).length + n = M) (e2 : p < 9 → n + 71 * l.length = M) (e3 : p = 9 → 32 * l.length + n ≤ 1483 ∧ (n = 0 ∨ 32 ≤ n))
    (hk : (127 ≤ n ∧ k = 71) ∨ (p = 9 ∧ 72 ≤ n ∧ n ≤ 126 ∧ k = 40) ∨ (p = 9 ∧ 32 ≤ n ∧ n ≤ 71 ∧ k = n)) (g1 : 1 ≤ a ∧ a ≤ 32 ∧ 1 ≤ b ∧ b ≤ 32 ∧ a + b + 7 = k) (hc : w.heap.size ≤ c) (hcell : w3.cell? ⟨c, 0, none⟩ = some (.string (nmOf a)))
    (g cap : Nat) (hown : w5.ownsRow (S + 1) 43 8 (.slice (some ⟨g, 0, none⟩) (l.length + 1) cap) (l.length + 1) (flatOf Eqn.cells l ++ (eqAB (some ⟨c, 0, none⟩) a b).cells)) (hgr : (w3.alloc (.cells (eqAB (some ⟨c, 0, none⟩) a b).cells.toArray t)).grownBy w5 v.ownBlock) (hat : v.ownBlock = some g ∨ g = (w3.alloc (.cells (eqAB (some ⟨c, 0, none⟩) a b).cells.toArray t)).heap.size) :
    InG S wS M p (w5.setCell ⟨S, 6, none⟩ (.slice (some ⟨g, 0, none⟩) (l.length + 1) cap)) (n - k) := by
  have hs := h.size
  have hv : ∀ k, v.ownBlock = some k → k < w.heap.size := fun k hk => (h.own.lt k hk).2
  have hlen := eqAB_len (some ⟨c, 0, none⟩) g1.2.1 g1.2.2.2.1
  refine ⟨l ++ [eqAB (some ⟨c, 0, none⟩) a b], _, (h.grow hb).more rfl _ ⟨⟨_, a, b, g1.1, g1.2.1, g1.2.2.1, g1.2.2.2.1, rfl⟩, c, nmOf a, rfl, rfl, ⟨by omega, fun e => by have := hv c e.symm; omega⟩, hcell⟩ g cap hown hgr (hat.imp id fun h => by rw [h]; simp), ?_, ?_, fun hp => ?_, fun hp => ?_⟩
  · simp only [List.length_append, List.length_cons, List.length_nil]; omega
  · rw [eqsText_snoc, hlen]; omega
  · have := e2 hp; simp only [List.length_append, List.length_cons, List.length_nil]; omega
  · obtain ⟨f1, f2⟩ := e3 hp; simp only [List.length_append, List.length_cons, List.length_nil]; omega
theorem OutW.lies_set {B k : Nat} {w wr : World} {l : List Nd} {v : Value} (h : OutW B w l v wr) (hk : k < B) (x : Value) : ∃ a c, v = .slice a l.length c ∧ Lie (wr.setCell ⟨k, 0, none⟩ x) a l ∧ ∀ n ∈ l, longNd n := by
  obtain ⟨a, c, h1, h2⟩ := rowIn_own nd_cells_len (ownsRow_setCell_below h.own (a := ⟨k, 0, none⟩) (show k < B + 1 by omega) x)
  have h3 : ∀ n ∈ l, ndLies (wr.setCell ⟨k, 0, none⟩ x) (freeOf B v) n := fun n hn => ndLies_keep (h.lie n hn) (by simp) fun b hb _ => ⟨Below.heap_setCell _ _ _ _ (by show b ≠ k; have := hb.1; omega), hb⟩
  refine ⟨a, c, h1, ⟨fun hne => ?_, fun n hn => (ndLies_lies (h3 n hn)).1⟩, fun n hn => (ndLies_lies (h3 n hn)).2⟩
  obtain ⟨b, k1, k2, k3, k4⟩ := h2 hne
  exact ⟨b, 0, k1, k3, k4⟩
/-- The program at hand, by what is left of the text. -/
def OutG (B : Nat) (w : World) (N : Nat) (wr : World) (n : Nat) : Prop := ∃ l v, OutW B w l v wr ∧ (ndsText l).length + n = N ∧ ((l.length ≤ 9 ∧ n + 7128 * l.length = N) ∨ (l.length = 10 ∧ n = 0))
theorem out_more {B S : Nat} {w wS w3 w5 : World} {N M n : Nat} {l : List Nd} {v ev : Value} {le : List Eqn} {a : Option Addr} {c : Nat} {t : TypeId} (h : OutW B w l v wS) (hS : S = wS.heap.size) (hin : InW S wS le ev w3) (hl : le.length ≤ 100) (hev : ev = .slice a le.length c) (hp : l.length ≤ 9) (e1 : (ndsText l).length + (M + 28) = N) (e2 : (eqsText le).length + n = M)
    (e3 : (l.length < 9 ∧ n + 7128 * (l.length + 1) = N) ∨ (l.length = 9 ∧ n = 0))
    (g cap : Nat) (hown : w5.ownsRow (B + 1) 37 7 (.slice (some ⟨g, 0, none⟩) (l.length + 1) cap) (l.length + 1) (flatOf Nd.cells l ++ (ndOf a c le).cells)) (hgr : (w3.alloc (.cells (ndOf a c le).cells.toArray t)).grownBy w5 v.ownBlock) (hat : v.ownBlock = some g ∨ g = (w3.alloc (.cells (ndOf a c le).cells.toArray t)).heap.size) :
    OutG B w N (w5.setCell ⟨B, 0, none⟩ (.slice (some ⟨g, 0, none⟩) (l.length + 1) cap)) n := by
  have hs := h.size
  have hv : ∀ k, v.ownBlock = some k → k < wS.heap.size := fun k hk => (h.own.lt k hk).2
  obtain ⟨a', c', h1, h2⟩ := hin.done hl
  have hac : a' = a ∧ c' = c := by rw [hev] at h1; simpa [eq_comm] using h1
  obtain ⟨rfl, rfl⟩ := hac
  have hlen := ndOf_len a' c' le
  have hg := h.grow (hS ▸ hin.below)
  refine ⟨l ++ [ndOf a' c' le], _, hg.more rfl _ (ndLies_keep h2 (Nat.le_refl _) fun b hb _ => ⟨rfl, by omega, fun e => by have := hv b e.symm; omega⟩) g cap hown hgr (hat.imp id fun h => by rw [h]; simp), ?_, ?_⟩
  · rw [ndsText_snoc, hlen]; omega
  · simp only [List.length_append, List.length_cons, List.length_nil]; omega
set_option maxRecDepth 100000 in
set_option maxHeartbeats 6400000 in
theorem long_calls (N : Nat) (h1 : 65408 ≤ N) (h2 : N ≤ 65663) (w : World) : Calls Tryd.prog 4 #[.int .i64 N] w fun x w' => ∃ a c l, x = .returned (.agg #[.slice a (List.length l) c]) ∧ Lie w' a l ∧ (∀ n ∈ l, longNd n) ∧ l.length ≤ 10 ∧ (ndsText l).length = N ∧ Below w.heap.size w w' := by
  obtain ⟨i0, hi, hz0', hz1, hz2⟩ := info_parts Tryd.infoEqn
  obtain ⟨i1, hj, hy0', hy1, hy2⟩ := info_parts Tryd.infoNode
  have HI : Hid _ := hi
  have HZ0 : Hid _ := hz0'
  have HZ1 : Hid _ := hz1
  have HZ2 : Hid _ := hz2
  have HJ : Hid _ := hj
  have HY0 : Hid _ := hy0'
  have HY1 : Hid _ := hy1
  have HY2 : Hid _ := hy2
  clear hi hz0' hz1 hz2 hj hy0' hy1 hy2
  obtain ⟨wB, hwB⟩ : ∃ wB : World, wB = w.alloc (.cells #[.slice none 0 0] 25) := ⟨_, rfl⟩
  obtain ⟨B, hB⟩ : ∃ B, B = w.heap.size + 1 := ⟨_, rfl⟩
  obtain ⟨W0, hW0⟩ : ∃ W0 : World, W0 = wB.alloc (.cells #[.slice none 0 0] 25) := ⟨_, rfl⟩
  have hBs : wB.heap.size = B := by rw [hwB, hB]; simp
  have HO0 : Hid (OutG B wB N W0 N) := by
    refine ⟨[], .slice none 0 0, ⟨?_, ?_, ?_, ?_, ⟨by simp [flatOf], Or.inl ⟨rfl, rfl⟩⟩, fun n hn => by cases hn⟩, by simp [ndsText], Or.inl ⟨by simp, by simp⟩⟩
    · rw [hW0]; exact (Below.refl _ _).alloc (by omega) _
    · rw [hW0]; simp [hBs]
    · rw [hW0]; exact World.cell?_alloc_at _ _ _ _ hBs.symm
    · rw [hW0]; exact World.frozen?_alloc_at _ _ _ _ hBs.symm
  have HWB : Hid (wB.cell? ⟨w.heap.size, 0, none⟩ = some (.slice none 0 0) ∧ Below w.heap.size w wB ∧ wB.frozen? ⟨w.heap.size, 0, none⟩ = false) := by
    rw [hwB]
    exact ⟨World.cell?_alloc_at _ _ _ _ rfl, (Below.refl _ _).alloc (Nat.le_refl _) _, by simp⟩
  have HW0 : Hid ((w.alloc (.cells #[.slice none 0 0] 25)).alloc (.cells #[.slice none 0 0] 25) = W0) := by rw [Hid, hW0, hwB]
  have HB : Hid (w.heap.size + 1 = B) := hB.symm
  clear hwB hB hW0 hBs
  go_enter Tryd.func4, Tryd.ntmps4
  go_wp2_with fail
  rw [HW0.out, HB.out]
  go_loopw [0] (fun i wr => ∃ n : Nat, i = .int .i64 n ∧ Hid (OutG B wB N wr n)) (fun i _ => (intOf i).toNat)
  case atStart => exact ⟨N, rfl, HO0⟩
  case round =>
    obtain ⟨n, rfl, HG⟩ := hrel
    obtain ⟨l, v, hO, e1, e2⟩ := HG.out
    have hOs := hO.size
    have b1 : B < wr.heap.size := by omega
    have pc := hO.prog
    have pf := hO.froz
    obtain ⟨va, vc, rfl⟩ : ∃ a c, v = .slice a l.length c := by obtain ⟨a, c, h, -⟩ := hO.lies; exact ⟨a, c, h⟩
    have HO : Hid (OutW B wB l (.slice va l.length vc) wr) := hO
    by_cases hp : l.length ≤ 9
    · have hn : n + 7128 * l.length = N := by omega
      have hnb : 1256 ≤ n ∧ n ≤ 65663 := by omega
      obtain ⟨M, hM0⟩ : ∃ M, n = M + 28 := ⟨n - 28, by omega⟩
      have hM : (n : Int) - 28 = (M : Int) := by omega
      have hn0 : (0 : Int) < (n : Int) := by omega
      have hdec : decide (0 < n) = true := decide_eq_true (by omega)
      have HE1 : Hid ((ndsText l).length + (M + 28) = N) := by rw [← hM0]; exact e1
      have HE2 : Hid (M + 28 + 7128 * l.length = N) := by rw [← hM0]; exact hn
      have HMb : Hid (1228 ≤ M ∧ M ≤ 65635) := by rw [Hid]; omega
      obtain ⟨V, hV⟩ : ∃ V, V = wr := ⟨_, rfl⟩
      subst hV
      obtain ⟨S, hS⟩ : ∃ S, S = V.heap.size := ⟨_, rfl⟩
      obtain ⟨W1, hW1⟩ : ∃ W1 : World, W1 = V.alloc (.cells #[.bool false, .string ⟨#[110]⟩, .int .i64 0, .slice none 0 0, .slice none 0 0, .slice none 0 0, .slice none 0 0] 37) := ⟨_, rfl⟩
      have hz : ∀ j, W1.cell? ⟨S, j, none⟩ = (#[.bool false, .string ⟨#[110]⟩, .int .i64 0, .slice none 0 0, .slice none 0 0, .slice none 0 0, .slice none 0 0] : Array Value)[j]? := fun j => by rw [hW1, hS]; exact World.cell?_alloc_at _ _ _ _ rfl
      have HG1 : Hid (InG S V M l.length W1 M) := by
        refine ⟨[], .slice none 0 0, ⟨?_, ?_, fun j hj => ?_, hz 6, ?_, ⟨by simp [flatOf], Or.inl ⟨rfl, rfl⟩⟩, fun n hn => by cases hn⟩, by simp, by simp [eqsText], by simp, fun hp => ?_⟩
        · rw [hW1, hS]; exact (Below.refl _ _).alloc (Nat.le_refl _) _
        · rw [hW1, hS]; simp
        · rw [hz j]
          match j, hj with
          | 0, _ => rfl
          | 1, _ => rfl
          | 2, _ => rfl
          | 3, _ => rfl
          | 4, _ => rfl
          | 5, _ => rfl
        · rw [hW1]; exact World.frozen?_alloc_at _ _ _ _ hS
        · have := HE2.out; simp only [List.length_nil]; omega
      have HW1 : Hid (V.alloc (.cells #[.bool false, .string ⟨#[110]⟩, .int .i64 0, .slice none 0 0, .slice none 0 0, .slice none 0 0, .slice none 0 0] 37) = W1) := hW1.symm
      have HS : Hid (V.heap.size = S) := hS.symm
      have HP : Hid (l.length ≤ 9) := hp
      clear hO HG HO0 e1 e2 hn hz hW1 hS hM0
      go_wp2_with fail
      try rw [hdec]
      try rw [hM]
      rw [HW1.out, HS.out]
      have HN0 : Hid _ := hn0
      have HMI : Hid _ := hM
      clear hdec hn0 hM hnb
      go_loopw [0] (fun i wi => ∃ n : Nat, i = .int .i64 n ∧ Hid (InG S V M l.length wi n)) (fun i _ => (intOf i).toNat)
      case atStart => exact ⟨M, rfl, HG1⟩
      case round =>
        obtain ⟨n, rfl, HI1⟩ := hrel
        obtain ⟨le, ev, hI, f0, f1, f2, f3⟩ := HI1.out
        have hIs := hI.size
        obtain ⟨ea, ec, hev⟩ : ∃ a c, ev = .slice a le.length c := by obtain ⟨a, c, h, -⟩ := hI.done f0; exact ⟨a, c, h⟩
        subst hev
        have xc := hI.eqs
        have xf := hI.froz
        have b2 : S < wr.heap.size := by omega
        have HIn : Hid (InW S V le (.slice ea le.length ec) wr) := hI
        have HF : Hid ((eqsText le).length + n = M ∧ (l.length < 9 → n + 71 * le.length = M) ∧ (l.length = 9 → 32 * le.length + n ≤ 1483 ∧ (n = 0 ∨ 32 ≤ n))) := ⟨f1, f2, f3⟩
        by_cases hgo : le.length < 100 ∧ 0 < n
        · obtain ⟨hl100, hn0'⟩ := hgo
          have hl1 : (le.length : Int) < 100 := by omega
          have hl2 : (0 : Int) < (n : Int) := by omega
          have HLen1 : Hid (le.length + 1 ≤ maxLen) := by unfold Hid maxLen; omega
          have HLen2 : Hid ((le.length + 1) * 104 ≤ 140737488355328) := by unfold Hid; omega
          have hnM : n ≤ 65663 := by have := HMb.out; omega
          clear hI HI1 HG1
          by_cases hA : 127 ≤ n
          · have hA1 : (71 : Int) < (n : Int) := by omega
            have hA2 : (56 : Int) ≤ (n : Int) - 71 := by omega
            have hmin : min (n : Int) 71 = 71 := by omega
            have hmin2 : (0 : Int) = 0 := rfl
            clear f0 f1 f2 f3
            have HK : Hid (∀ W, Calls Tryd.prog 8 #[.int .i64 71] W fun x w' => ∃ c a b, x = .returned (.agg #[.slice (some ⟨c, 0, none⟩) 1 1, .int .i64 0, .int .u8 1, .int .i64 0, .string (nmOf b), .int .i64 0, .int .i64 0, .slice none 0 0]) ∧ (1 ≤ a ∧ a ≤ 32 ∧ 1 ≤ b ∧ b ≤ 32 ∧ a + b + 7 = 71) ∧ W.heap.size ≤ c ∧ w'.cell? ⟨c, 0, none⟩ = some (.string (nmOf a)) ∧ Below W.heap.size W w') := fun W => eq_line 71 (by omega) (by omega) W
            go_wp2_with fail
            try rw [hmin]
            try rw [hmin2]
            go_cut [] (fun wc => Hid (InG S V M l.length wc (n - 71)))
            case first =>
              go_region_law (first
                | (refine step_append_lies (w3.alloc (.cells (eqAB (some ⟨c, 0, none⟩) a b).cells.toArray 43)) rfl (.tmp 45) (.tmp 48) 35 rfl (S + 1) 43 i0 (.agg #[.slice none 0 0, .int .i64 0, .int .u8 0, .int .i64 0, .string ⟨#[]⟩, .int .i64 0, .int .i64 0, .slice none 0 0]) 8 104 Tryd.underlying35 HI.out HZ0.out HZ1.out HZ2.out rfl (by decide) (.slice ea le.length ec) le.length (flatOf Eqn.cells le) (by simp [Act.eval]) (HI3.out.own.alloc _) ⟨w3.heap.size, 0, none⟩ 1 1 (eqAB (some ⟨c, 0, none⟩) a b).cells (by simp [Act.eval]) rfl (news_at w3 _ _) (eqn_one _) (by decide) HLen1.out HLen2.out (by have := HI3.out.size; simp; omega) (w3.alloc (.cells (eqAB (some ⟨c, 0, none⟩) a b).cells.toArray 43)).heap.size rfl ?_; intro g3 cap3 w6 hown3 hgrow hat hlt3; obtain ⟨j0, j1, j2⟩ := in_after HI3.out hgrow; have HOW : Hid _ := hown3; have HGR : Hid _ := hgrow; have HAT : Hid _ := hat; clear hown3 hgrow hat)
                | (go_simp; go_wp2_with (go_at_call 8; refine (HK.out _).mono ?_; rintro r w3 ⟨c, a, b, rfl, hab, hc3, hcell3, hb3⟩; have HB3 : Hid (Below wr.heap.size wr w3) := ⟨hb3.os, hb3.tape, hb3.output, hb3.size, hb3.block⟩; have HI3 : Hid (InW S V le (.slice ea le.length ec) w3) := HIn.out.grow HB3.out; have k1 := HI3.out.eqs; have k2 := HI3.out.froz; have k3 : S < w3.heap.size := HI3.out.size; have HC3 : Hid (wr.heap.size ≤ c) := hc3; have HCE : Hid _ := hcell3; have HAB : Hid _ := hab; clear hb3 hc3 hcell3 hab)))
              all_goals go_wp2_with fail
              all_goals go_meet
              all_goals exact in_more HIn.out HB3.out hl100 HF.out.1 HF.out.2.1 HF.out.2.2 (Or.inl ⟨hA, rfl⟩) HAB.out HC3.out HCE.out g3 cap3 HOW.out HGR.out HAT.out
            case rest =>
              go_wp2_with fail
              go_roundw
              case rel => exact ⟨n - 71, by rw [Int.ofNat_sub (by omega)]; rfl, hcut⟩
              case measure => simp [intOf]; omega
          · have hp9 : l.length = 9 := by
              rcases Nat.lt_or_ge l.length 9 with h | h
              · exfalso
                have h1 := f2 h
                have h2 := HE2.out
                omega
              · have := HP.out; omega
            have hn32 : 32 ≤ n := by have := (f3 hp9).2; omega
            by_cases hB1 : 72 ≤ n
            · have hA1 : (71 : Int) < (n : Int) := by omega
              have hA2 : (n : Int) - 71 < 56 := by omega
              have hA3 : (9 : Int) ≤ (n : Int) - 40 := by omega
              have hmin : min (n : Int) 71 = 71 := by omega
              have hmin2 : min (71 : Int) 40 = 40 := by decide
              clear f0 f1 f2 f3
              have HK : Hid (∀ W, Calls Tryd.prog 8 #[.int .i64 40] W fun x w' => ∃ c a b, x = .returned (.agg #[.slice (some ⟨c, 0, none⟩) 1 1, .int .i64 0, .int .u8 1, .int .i64 0, .string (nmOf b), .int .i64 0, .int .i64 0, .slice none 0 0]) ∧ (1 ≤ a ∧ a ≤ 32 ∧ 1 ≤ b ∧ b ≤ 32 ∧ a + b + 7 = 40) ∧ W.heap.size ≤ c ∧ w'.cell? ⟨c, 0, none⟩ = some (.string (nmOf a)) ∧ Below W.heap.size W w') := fun W => eq_line 40 (by omega) (by omega) W
              go_wp2_with fail
              try rw [hmin]
              try rw [hmin2]
              go_cut [] (fun wc => Hid (InG S V M l.length wc (n - 40)))
              case first =>
                go_region_law (first
                  | (refine step_append_lies (w3.alloc (.cells (eqAB (some ⟨c, 0, none⟩) a b).cells.toArray 43)) rfl (.tmp 45) (.tmp 48) 35 rfl (S + 1) 43 i0 (.agg #[.slice none 0 0, .int .i64 0, .int .u8 0, .int .i64 0, .string ⟨#[]⟩, .int .i64 0, .int .i64 0, .slice none 0 0]) 8 104 Tryd.underlying35 HI.out HZ0.out HZ1.out HZ2.out rfl (by decide) (.slice ea le.length ec) le.length (flatOf Eqn.cells le) (by simp [Act.eval]) (HI3.out.own.alloc _) ⟨w3.heap.size, 0, none⟩ 1 1 (eqAB (some ⟨c, 0, none⟩) a b).cells (by simp [Act.eval]) rfl (news_at w3 _ _) (eqn_one _) (by decide) HLen1.out HLen2.out (by have := HI3.out.size; simp; omega) (w3.alloc (.cells (eqAB (some ⟨c, 0, none⟩) a b).cells.toArray 43)).heap.size rfl ?_; intro g3 cap3 w6 hown3 hgrow hat hlt3; obtain ⟨j0, j1, j2⟩ := in_after HI3.out hgrow; have HOW : Hid _ := hown3; have HGR : Hid _ := hgrow; have HAT : Hid _ := hat; clear hown3 hgrow hat)
                  | (go_simp; go_wp2_with (go_at_call 8; refine (HK.out _).mono ?_; rintro r w3 ⟨c, a, b, rfl, hab, hc3, hcell3, hb3⟩; have HB3 : Hid (Below wr.heap.size wr w3) := ⟨hb3.os, hb3.tape, hb3.output, hb3.size, hb3.block⟩; have HI3 : Hid (InW S V le (.slice ea le.length ec) w3) := HIn.out.grow HB3.out; have k1 := HI3.out.eqs; have k2 := HI3.out.froz; have k3 : S < w3.heap.size := HI3.out.size; have HC3 : Hid (wr.heap.size ≤ c) := hc3; have HCE : Hid _ := hcell3; have HAB : Hid _ := hab; clear hb3 hc3 hcell3 hab)))
                all_goals go_wp2_with fail
                all_goals go_meet
                all_goals exact in_more HIn.out HB3.out hl100 HF.out.1 HF.out.2.1 HF.out.2.2 (Or.inr (Or.inl ⟨hp9, hB1, by omega, rfl⟩)) HAB.out HC3.out HCE.out g3 cap3 HOW.out HGR.out HAT.out
              case rest =>
                go_wp2_with fail
                go_roundw
                case rel => exact ⟨n - 40, by rw [Int.ofNat_sub (by omega)]; rfl, hcut⟩
                case measure => simp [intOf]; omega
            · have hA1 : (n : Int) ≤ 71 := by omega
              have hmin : min (n : Int) 71 = n := by omega
              have hmin2 : (0 : Int) = 0 := rfl
              clear f0 f1 f2 f3
              have HK : Hid (∀ W, Calls Tryd.prog 8 #[.int .i64 n] W fun x w' => ∃ c a b, x = .returned (.agg #[.slice (some ⟨c, 0, none⟩) 1 1, .int .i64 0, .int .u8 1, .int .i64 0, .string (nmOf b), .int .i64 0, .int .i64 0, .slice none 0 0]) ∧ (1 ≤ a ∧ a ≤ 32 ∧ 1 ≤ b ∧ b ≤ 32 ∧ a + b + 7 = n) ∧ W.heap.size ≤ c ∧ w'.cell? ⟨c, 0, none⟩ = some (.string (nmOf a)) ∧ Below W.heap.size W w') := fun W => eq_line n (by omega) (by omega) W
              go_wp2_with fail
              try rw [hmin]
              try rw [hmin2]
              go_cut [] (fun wc => Hid (InG S V M l.length wc (n - n)))
              case first =>
                go_region_law (first
                  | (refine step_append_lies (w3.alloc (.cells (eqAB (some ⟨c, 0, none⟩) a b).cells.toArray 43)) rfl (.tmp 45) (.tmp 48) 35 rfl (S + 1) 43 i0 (.agg #[.slice none 0 0, .int .i64 0, .int .u8 0, .int .i64 0, .string ⟨#[]⟩, .int .i64 0, .int .i64 0, .slice none 0 0]) 8 104 Tryd.underlying35 HI.out HZ0.out HZ1.out HZ2.out rfl (by decide) (.slice ea le.length ec) le.length (flatOf Eqn.cells le) (by simp [Act.eval]) (HI3.out.own.alloc _) ⟨w3.heap.size, 0, none⟩ 1 1 (eqAB (some ⟨c, 0, none⟩) a b).cells (by simp [Act.eval]) rfl (news_at w3 _ _) (eqn_one _) (by decide) HLen1.out HLen2.out (by have := HI3.out.size; simp; omega) (w3.alloc (.cells (eqAB (some ⟨c, 0, none⟩) a b).cells.toArray 43)).heap.size rfl ?_; intro g3 cap3 w6 hown3 hgrow hat hlt3; obtain ⟨j0, j1, j2⟩ := in_after HI3.out hgrow; have HOW : Hid _ := hown3; have HGR : Hid _ := hgrow; have HAT : Hid _ := hat; clear hown3 hgrow hat)
                  | (go_simp; go_wp2_with (go_at_call 8; refine (HK.out _).mono ?_; rintro r w3 ⟨c, a, b, rfl, hab, hc3, hcell3, hb3⟩; have HB3 : Hid (Below wr.heap.size wr w3) := ⟨hb3.os, hb3.tape, hb3.output, hb3.size, hb3.block⟩; have HI3 : Hid (InW S V le (.slice ea le.length ec) w3) := HIn.out.grow HB3.out; have k1 := HI3.out.eqs; have k2 := HI3.out.froz; have k3 : S < w3.heap.size := HI3.out.size; have HC3 : Hid (wr.heap.size ≤ c) := hc3; have HCE : Hid _ := hcell3; have HAB : Hid _ := hab; clear hb3 hc3 hcell3 hab)))
                all_goals go_wp2_with fail
                all_goals go_meet
                all_goals exact in_more HIn.out HB3.out hl100 HF.out.1 HF.out.2.1 HF.out.2.2 (Or.inr (Or.inr ⟨hp9, hn32, by omega, rfl⟩)) HAB.out HC3.out HCE.out g3 cap3 HOW.out HGR.out HAT.out
              case rest =>
                go_wp2_with fail
                go_roundw
                case rel => exact ⟨n - n, by simp, hcut⟩
                case measure => simp [intOf]; omega
        · have HOi : Hid (OutW B wB l (.slice va l.length vc) wr) := HO.out.grow (by rw [HS.out]; exact hI.below)
          have hend : (le.length = 100 ∧ 0 < n ∧ l.length < 9 ∧ n + 7128 * (l.length + 1) = N) ∨ (le.length < 100 ∧ n = 0 ∧ l.length = 9) := by
            have a1 := HE2.out
            have a2 := HP.out
            have a3 := HMb.out
            rcases Nat.lt_or_ge l.length 9 with h | h
            · have h3 := f2 h
              left
              omega
            · have h3 := f3 (by omega)
              right
              omega
          have pc2 := HOi.out.prog
          have pf2 := HOi.out.froz
          have b3 : B < wr.heap.size := HOi.out.size
          have x0 : wr.cell? ⟨S, 0, none⟩ = some (.bool false) := hI.node 0 (by omega)
          have x1 : wr.cell? ⟨S, 1, none⟩ = some (.string ⟨#[110]⟩) := hI.node 1 (by omega)
          have x2 : wr.cell? ⟨S, 2, none⟩ = some (.int .i64 0) := hI.node 2 (by omega)
          have x3 : wr.cell? ⟨S, 3, none⟩ = some (.slice none 0 0) := hI.node 3 (by omega)
          have x4 : wr.cell? ⟨S, 4, none⟩ = some (.slice none 0 0) := hI.node 4 (by omega)
          have x5 : wr.cell? ⟨S, 5, none⟩ = some (.slice none 0 0) := hI.node 5 (by omega)
          have HLen3 : Hid (l.length + 1 ≤ maxLen) := by have := HP.out; unfold Hid maxLen; omega
          have HLen4 : Hid ((l.length + 1) * 128 ≤ 140737488355328) := by have := HP.out; unfold Hid; omega
          have HL : Hid (le.length ≤ 100) := f0
          clear hI HI1 HG1 f0 f1 f2 f3
          rcases hend with ⟨he1, he2, he3, he4⟩ | ⟨he1, he2, he3⟩
          · have hx1 : ¬ ((le.length : Int) < 100) := by omega
            have hx2 : ¬ (le.length < 100) := by omega
            have HEnd : Hid (le.length = 100 ∧ l.length < 9 ∧ n + 7128 * (l.length + 1) = N) := ⟨he1, he3, he4⟩
            clear he1 he3 he4
            go_wp2_with (at_builtin; refine wpList_append_lies _ rfl _ _ 23 rfl (B + 1) 37 i1 _ 7 128 Tryd.underlying23 HJ.out HY0.out HY1.out HY2.out rfl (by decide) _ _ _ rfl (HOi.out.own.alloc _) ⟨wr.heap.size, 0, none⟩ 1 1 (ndOf ea ec le).cells rfl rfl (news_at wr _ _) (nd_one _) (by decide) HLen3.out HLen4.out (by simp; omega) _ rfl ?_; intro g3 cap3 w6 hown3 hgrow hat hlt3; obtain ⟨j0, j1, j2⟩ := out_after HOi.out hgrow; have HOW : Hid _ := hown3; have HGR : Hid _ := hgrow; have HAT : Hid _ := hat; clear hown3 hgrow hat)
            go_roundw
            case rel => exact ⟨n, rfl, out_more HO.out HS.out.symm HIn.out HL.out rfl HP.out HE1.out HF.out.1 (Or.inl ⟨HEnd.out.2.1, HEnd.out.2.2⟩) g3 cap3 HOW.out HGR.out HAT.out⟩
            case measure => have h5 := HMI.out; have h6 := HE2.out; have h7 := HEnd.out.2.2; simp [intOf]; omega
          · subst he2
            have hx1 : (le.length : Int) < 100 := by omega
            have HE3 : Hid (l.length = 9) := he3
            clear he3
            go_wp2_with (at_builtin; refine wpList_append_lies _ rfl _ _ 23 rfl (B + 1) 37 i1 _ 7 128 Tryd.underlying23 HJ.out HY0.out HY1.out HY2.out rfl (by decide) _ _ _ rfl (HOi.out.own.alloc _) ⟨wr.heap.size, 0, none⟩ 1 1 (ndOf ea ec le).cells rfl rfl (news_at wr _ _) (nd_one _) (by decide) HLen3.out HLen4.out (by simp; omega) _ rfl ?_; intro g3 cap3 w6 hown3 hgrow hat hlt3; obtain ⟨j0, j1, j2⟩ := out_after HOi.out hgrow; have HOW : Hid _ := hown3; have HGR : Hid _ := hgrow; have HAT : Hid _ := hat; clear hown3 hgrow hat)
            go_roundw
            case rel => exact ⟨0, rfl, out_more HO.out HS.out.symm HIn.out HL.out rfl HP.out HE1.out HF.out.1 (Or.inr ⟨HE3.out, rfl⟩) g3 cap3 HOW.out HGR.out HAT.out⟩
            case measure => have h5 := HN0.out; simp [intOf]; omega
    · have hp1 : l.length = 10 ∧ n = 0 := by omega
      obtain ⟨hp2, rfl⟩ := hp1
      have HL : Hid (l.length = 10) := hp2
      have HE : Hid ((ndsText l).length = N) := by rw [Hid]; omega
      obtain ⟨a, c, hv, hlie, hnd⟩ := hO.lies_set (k := w.heap.size) (by have := HB.out; omega) (.slice va l.length vc)
      obtain ⟨rfl, rfl⟩ : va = a ∧ vc = c := by simpa using hv
      have r0 : wr.cell? ⟨w.heap.size, 0, none⟩ = some (.slice none 0 0) := (hO.below.cell (p := ⟨w.heap.size, 0, none⟩) (by have := HB.out; show w.heap.size < B; omega)).trans HWB.out.1
      have r1 : wr.frozen? ⟨w.heap.size, 0, none⟩ = false := (hO.below.frozen (p := ⟨w.heap.size, 0, none⟩) (by have := HB.out; show w.heap.size < B; omega)).trans HWB.out.2.2
      have b0 : w.heap.size < wr.heap.size := by have := HB.out; omega
      have HLie : Hid (Lie (wr.setCell ⟨w.heap.size, 0, none⟩ (.slice va l.length vc)) va l) := hlie
      have HNd : Hid (∀ n ∈ l, longNd n) := hnd
      have HBl : Hid (Below w.heap.size w (wr.setCell ⟨w.heap.size, 0, none⟩ (.slice va l.length vc))) := (HWB.out.2.1.trans (hO.below.mono (by have := HB.out; omega))).setCell (p := ⟨w.heap.size, 0, none⟩) (Nat.le_refl _) _
      clear hO HG HO0 e1 e2 hlie hnd hv hp2 hp
      go_wp2_with fail
      obtain ⟨W9, hW9⟩ : ∃ W9, W9 = wr.setCell ⟨w.heap.size, 0, none⟩ (.slice va l.length vc) := ⟨_, rfl⟩
      have z0 : W9.cell? ⟨w.heap.size, 0, none⟩ = some (.slice va l.length vc) := by rw [hW9]; exact World.cell?_setCell_same _ _ _ r0
      rw [← hW9] at HLie HBl ⊢
      clear hW9
      refine bodyPost_ret (by simp [results, Tryd.results4, go_sem, *]; try rfl) rfl ?_
      exact ⟨va, vc, l, rfl, HLie.out, HNd.out, by rw [HL.out]; omega, HE.out, HBl.out⟩
end Go.Proofs.YtbahpbinilnfoaaDoor
