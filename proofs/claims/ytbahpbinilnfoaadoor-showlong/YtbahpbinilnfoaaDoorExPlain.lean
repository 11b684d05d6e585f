/- Expressions as trees that lie in memory: their cells, where their Args lie, how great and how deep they are. No program in sight but the layout of six cells an expression. -/
import Derived.Test.YtbahpbinilnfoaaDoorLater
import Derived.Below
namespace Go.Proofs.YtbahpbinilnfoaaDoor
open Go.RowKit

/-- An expression: kind, place, name, number, denominator; where its Args lie, the room there, and its Args. -/
structure Ex where
  kd : Int
  pl : Int
  nm : ByteArray
  it : Int
  dn : Int
  ad : Option Addr
  cap : Nat
  args : List Ex
namespace Ex
def cells : Ex → List Value | .mk kd pl nm it dn a c l => [.int .u8 kd, .int .i64 pl, .string nm, .int .i64 it, .int .i64 dn, .slice a l.length c]
def val (e : Ex) : Value := .agg e.cells.toArray
end Ex
/-- How many expressions. -/
def Ex.size : Ex → Nat
  | .mk _ _ _ _ _ _ _ l => 1 + sizes l
where sizes : List Ex → Nat
  | [] => 0
  | e :: r => e.size + sizes r
open Ex.size
/-- How deep. -/
def Ex.depth : Ex → Nat
  | .mk _ _ _ _ _ _ _ l => deepest l + 1
where deepest : List Ex → Nat
  | [] => 0
  | e :: r => max e.depth (deepest r)
open Ex.depth
/-- The Args lie in the world, one behind the other, six cells each. -/
def Ex.lies (w : World) : Ex → Prop
  | .mk _ _ _ _ _ a _ l => ∃ b o, (l ≠ [] → a = some ⟨b, o, none⟩) ∧ lieAt b o l
where lieAt (b : Nat) : Nat → List Ex → Prop
  | _, [] => True
  | o, e :: r => (∀ j, j < 6 → w.cell? ⟨b, o + j, none⟩ = e.cells[j]?) ∧ e.lies w ∧ lieAt b (o + 6) r
open Ex.lies
theorem sizes_at (l : List Ex) (i : Nat) (h : i < l.length) : sizes (l.take (i + 1)) = sizes (l.take i) + l[i].size := by
  induction l generalizing i with
  | nil => simp at h
  | cons e r ih =>
    cases i with
    | zero => simp [sizes]
    | succ i =>
      have := ih i (by simpa using h)
      simp only [List.take_succ_cons, sizes, List.getElem_cons_succ]
      omega
theorem sizes_take (l : List Ex) (i : Nat) : sizes (l.take i) ≤ sizes l := by
  induction l generalizing i with
  | nil => simp
  | cons e r ih =>
    cases i with
    | zero => simp [sizes]
    | succ i =>
      have := ih i
      simp only [List.take_succ_cons, sizes]
      omega
theorem deepest_at (l : List Ex) (i : Nat) (h : i < l.length) : deepest (l.take (i + 1)) = max (deepest (l.take i)) l[i].depth := by
  induction l generalizing i with
  | nil => simp at h
  | cons e r ih =>
    cases i with
    | zero => simp [deepest]
    | succ i =>
      have := ih i (by simpa using h)
      simp only [List.take_succ_cons, deepest, List.getElem_cons_succ]
      omega
theorem lieAt_get {w : World} {b : Nat} (l : List Ex) (o i : Nat) (h : lieAt w b o l) (hi : i < l.length) : (∀ j, j < 6 → w.cell? ⟨b, o + i * 6 + j, none⟩ = l[i].cells[j]?) ∧ l[i].lies w := by
  induction l generalizing o i with
  | nil => simp at hi
  | cons e r ih =>
    cases i with
    | zero => simpa [lieAt] using ⟨h.1, h.2.1⟩
    | succ i =>
      have := ih (o + 6) i h.2.2 (by simpa using hi)
      refine ⟨fun j hj => ?_, this.2⟩
      have h1 := this.1 j hj
      rw [show o + (i + 1) * 6 + j = o + 6 + i * 6 + j by omega]
      exact h1
theorem size_pos (e : Ex) : 1 ≤ e.size := by
  cases e
  simp [Ex.size]
theorem size_arg {l : List Ex} {i : Nat} (h : i < l.length) : l[i].size ≤ sizes l := by
  have h1 := sizes_at l i h
  have h2 := sizes_take l (i + 1)
  omega
/-- What lies in a world lies in one that has grown. -/
theorem lies_below {w w' : World} (hb : Below w.heap.size w w') : ∀ e : Ex, e.lies w → e.lies w'
  | .mk _ _ _ _ _ _ _ l, ⟨b, o, h1, h2⟩ => ⟨b, o, h1, all b o l h2⟩
where all (b : Nat) : ∀ (o : Nat) (l : List Ex), lieAt w b o l → lieAt w' b o l
  | _, [], _ => trivial
  | o, e :: r, ⟨h1, h2, h3⟩ => by
    have hlt : b < w.heap.size := by
      have h0 := h1 0 (by omega)
      cases e
      exact World.block_lt_of_cell? w ⟨b, o + 0, none⟩ h0
    exact ⟨fun j hj => (hb.cell (p := ⟨b, o + j, none⟩) hlt).trans (h1 j hj), lies_below hb e h2, all b (o + 6) r h3⟩
theorem lieAt_below {w w' : World} (hb : Below w.heap.size w w') (b o : Nat) (l : List Ex) (h : lieAt w b o l) : lieAt w' b o l := lies_below.all hb b o l h
theorem depth_le : ∀ e : Ex, e.depth ≤ e.size
  | .mk _ _ _ _ _ _ _ l => by
    have := all l
    simp only [Ex.depth, Ex.size]
    omega
where all : ∀ l : List Ex, deepest l ≤ sizes l
  | [] => by simp [deepest, sizes]
  | e :: r => by
    have h1 := depth_le e
    have h2 := all r
    simp only [deepest, sizes]
    omega
theorem deepest_le (l : List Ex) : deepest l ≤ sizes l := depth_le.all l
end Go.Proofs.YtbahpbinilnfoaaDoor
