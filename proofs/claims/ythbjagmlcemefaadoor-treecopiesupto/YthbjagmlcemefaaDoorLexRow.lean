/- Tokens as memory: the cells of a row of tokens, what an append leaves of it. -/
import Derived.Test.YthbjagmlcemefaaDoorLexScanPlain
import Derived.Test.YthbjagmlcemefaaDoorProg
import Derived.WalkKit
import Derived.Deep.AppendLies
import Derived.OwnWalk
import Derived.Deep.Onto
import Derived.Laws.OwnMore
namespace Go.Proofs.YthbjagmlcemefaaDoor
open Go.RowKit
/-- The error that wraps a fault. -/
def tokCells (t : Tok) : List Value := [.int .u8 t.kind, .string t.text, .int .i64 t.int, .int .i64 t.place]
def toksCells (l : List Tok) : List Value := l.flatMap tokCells
theorem toksCells_snoc (l : List Tok) (t : Tok) : toksCells (l ++ [t]) = toksCells l ++ tokCells t := by simp [toksCells]
theorem later_ownsRow {w : World} {base : Nat} {e : TypeId} {size : Nat} {v : Value} {n : Nat} {xs : List Value} (h : w.ownsRow base e size v n xs) (m : Nat) (os : Array Obj) : (later w m os).ownsRow base e size v n xs := by
  refine ⟨h.1, ?_⟩
  rcases h.2 with h | ⟨g, cap, cur, hv, hb, hg, rest⟩
  · exact .inl h
  · refine .inr ⟨g, cap, cur, hv, hb, ?_, rest⟩
    rw [later_heap_old]
    · exact hg
    · rcases Nat.lt_or_ge g w.heap.size with hlt | hge
      · exact hlt
      · rw [Array.getElem?_eq_none hge] at hg; cases hg
/-- What an append leaves of the memory: the result's cells, the element's text, what is below. -/
theorem grown_keep {w w1 w2 : World} {ty : TypeId} {v : Value} {n : Nat} {xs : List Value} {cs ds : Array Value} {t u : TypeId} (hb : Below w.heap.size w w1) (ho : w1.ownsRow (w.heap.size + 1) ty 4 v n xs) (hg : ((w1.alloc (.cells cs t)).alloc (.cells ds u)).grownBy w2 v.ownBlock) (hs : w.heap.size < w1.heap.size) :
    w2.cell? ⟨w.heap.size, 0, none⟩ = w1.cell? ⟨w.heap.size, 0, none⟩ ∧ w2.cell? ⟨w.heap.size, 1, none⟩ = w1.cell? ⟨w.heap.size, 1, none⟩ ∧ w2.frozen? ⟨w.heap.size, 0, none⟩ = w1.frozen? ⟨w.heap.size, 0, none⟩ ∧ w2.frozen? ⟨w.heap.size, 1, none⟩ = w1.frozen? ⟨w.heap.size, 1, none⟩ ∧ w2.cell? ⟨w1.heap.size, 1, none⟩ = cs[1]? ∧ w.heap.size < w2.heap.size ∧ Below w.heap.size w w2 := by
  have hrow : ∀ k, v.ownBlock = some k → w.heap.size + 1 ≤ k ∧ k < w1.heap.size := ho.lt
  have hne : ∀ k, k ≤ w.heap.size ∨ w1.heap.size ≤ k → some k ≠ v.ownBlock := fun k hk e => by
    have := hrow k e.symm
    omega
  have hsz := hg.size
  simp at hsz
  have hblock : ∀ k, k ≤ w.heap.size → w2.heap[k]? = w1.heap[k]? := fun k hk => by
    rw [hg.block k (by simp; omega) (hne k (Or.inl hk))]
    show ((w1.heap.push _).push _)[k]? = _
    rw [Array.getElem?_push_lt (by simp; omega)]
    rw [Array.getElem_push_lt (by omega)]
    simp [show k < w1.heap.size by omega]
  have hw := hblock w.heap.size (Nat.le_refl _)
  refine ⟨World.cell?_of_block hw, World.cell?_of_block hw, World.frozen?_of_block hw, World.frozen?_of_block hw, ?_, by omega, ?_⟩
  · rw [hg.cell_far ⟨w1.heap.size, 1, none⟩ (by simp; omega) (hne _ (Or.inr (Nat.le_refl _)))]
    rw [World.cell?_alloc_lt _ _ ⟨w1.heap.size, 1, none⟩ (by simp), World.cell?_alloc_at _ _ _ _ rfl]
  · exact ⟨hg.os.trans hb.os, hg.tape.trans hb.tape, hg.output.trans hb.output, by omega, fun k hk => (hblock k (by omega)).trans (hb.block k hk)⟩
theorem grown_keep1 {w w1 w2 : World} {ty : TypeId} {v : Value} {n : Nat} {xs : List Value} {ds : Array Value} {u : TypeId} (hb : Below w.heap.size w w1) (ho : w1.ownsRow (w.heap.size + 1) ty 4 v n xs) (hg : (w1.alloc (.cells ds u)).grownBy w2 v.ownBlock) (hs : w.heap.size < w1.heap.size) :
    w2.cell? ⟨w.heap.size, 0, none⟩ = w1.cell? ⟨w.heap.size, 0, none⟩ ∧ w2.cell? ⟨w.heap.size, 1, none⟩ = w1.cell? ⟨w.heap.size, 1, none⟩ ∧ w2.frozen? ⟨w.heap.size, 0, none⟩ = w1.frozen? ⟨w.heap.size, 0, none⟩ ∧ w2.frozen? ⟨w.heap.size, 1, none⟩ = w1.frozen? ⟨w.heap.size, 1, none⟩ ∧ w.heap.size < w2.heap.size ∧ Below w.heap.size w w2 := by
  have hrow : ∀ k, v.ownBlock = some k → w.heap.size + 1 ≤ k ∧ k < w1.heap.size := ho.lt
  have hne : ∀ k, k ≤ w.heap.size → some k ≠ v.ownBlock := fun k hk e => by
    have := hrow k e.symm
    omega
  have hsz := hg.size
  simp at hsz
  have hblock : ∀ k, k ≤ w.heap.size → w2.heap[k]? = w1.heap[k]? := fun k hk => by
    rw [hg.block k (by simp; omega) (hne k hk)]
    show (w1.heap.push _)[k]? = _
    rw [Array.getElem?_push_lt (by omega)]
    simp [show k < w1.heap.size by omega]
  have hw := hblock w.heap.size (Nat.le_refl _)
  exact ⟨World.cell?_of_block hw, World.cell?_of_block hw, World.frozen?_of_block hw, World.frozen?_of_block hw, by omega, ⟨hg.os.trans hb.os, hg.tape.trans hb.tape, hg.output.trans hb.output, by omega, fun k hk => (hblock k (by omega)).trans (hb.block k hk)⟩⟩
theorem toksCells_len (l : List Tok) : (toksCells l).length = l.length * 4 := by
  induction l with
  | nil => rfl
  | cons t r ih => simp only [toksCells, List.flatMap_cons, List.length_append, List.length_cons] at *; rw [ih]; simp [tokCells]; omega
theorem toksCells_at (l : List Tok) (k : Nat) (hk : k < l.length) (i : Nat) (hi : i < 4) : (toksCells l)[k * 4 + i]? = (tokCells l[k])[i]? := by
  induction l generalizing k with
  | nil => simp at hk
  | cons t r ih =>
    simp only [toksCells, List.flatMap_cons] at *
    have h4 : (tokCells t).length = 4 := rfl
    cases k with
    | zero =>
      rw [List.getElem?_append_left (by omega)]
      simp
    | succ k =>
      rw [List.getElem?_append_right (by omega), h4, show (k + 1) * 4 + i - 4 = k * 4 + i by omega]
      simpa using ih k (by simpa using hk)
theorem own_cells {w : World} {B : Nat} {ty : TypeId} {g cap : Nat} {l : List Tok} (h : w.ownsRow B ty 4 (.slice (some ⟨g, 0, none⟩) l.length cap) l.length (toksCells l)) {k : Nat} (hk : k < l.length) :
    w.cell? ⟨g, k * 4, none⟩ = some (.int .u8 l[k].kind) ∧ w.cell? ⟨g, k * 4 + 1, none⟩ = some (.string l[k].text) ∧ w.cell? ⟨g, k * 4 + 2, none⟩ = some (.int .i64 l[k].int) ∧ w.cell? ⟨g, k * 4 + 3, none⟩ = some (.int .i64 l[k].place) := by
  have h0 := h.cellAt (k * 4 + 0) (by omega)
  have h1 := h.cellAt (k * 4 + 1) (by omega)
  have h2 := h.cellAt (k * 4 + 2) (by omega)
  have h3 := h.cellAt (k * 4 + 3) (by omega)
  rw [toksCells_at l k hk _ (by omega)] at h0 h1 h2 h3
  exact ⟨h0, h1, h2, h3⟩
end Go.Proofs.YthbjagmlcemefaaDoor
