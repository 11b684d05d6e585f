/- What Same leaves to be done, in plain words. -/
import Derived.Test.YthbjagmlcemefaaDoorTreeSame1
namespace Go.Proofs.YthbjagmlcemefaaDoor
open Go.RowKit
open Ex.size Ex.depth Ex.lies Ex.bulk Ex.good Ex.same
def okPr (p : Pr) : Bool := (p.la.length == p.lb.length) && sames p.la p.lb
def okAll (ps : List Pr) : Bool := ps.all okPr
def pushes : List Ex → List Ex → List Pr
  | x :: r, y :: s => pushOf x y ++ pushes r s
  | _, _ => []
def tops : List Ex → List Ex → Bool
  | x :: r, y :: s => topEq x y && tops r s
  | _, _ => true
theorem okAll_app (a b : List Pr) : okAll (a ++ b) = (okAll a && okAll b) := by simp [okAll]
theorem same_top (x y : Ex) : x.same y = (topEq x y && okAll (pushOf x y)) := by
  obtain ⟨kd, pl, nm, it, dn, a, cap, l⟩ := x
  obtain ⟨kd', pl', nm', it', dn', a', cap', l'⟩ := y
  simp only [Ex.same, topEq, pushOf]
  split
  · rename_i h
    obtain ⟨h1, h2⟩ := h
    subst h1 h2
    simp [okAll, sames]
  · simp [okAll, okPr, Bool.and_assoc]
theorem sames_tops : ∀ la lb : List Ex, sames la lb = (tops la lb && okAll (pushes la lb))
  | x :: r, y :: s => by
    simp only [sames, tops, pushes, okAll_app, same_top x y, sames_tops r s]
    cases topEq x y <;> cases tops r s <;> cases okAll (pushOf x y) <;> simp
  | [], _ => by simp [sames, tops, pushes, okAll]
  | _ :: _, [] => by simp [sames, tops, pushes, okAll]
theorem pushes_at (la lb : List Ex) (k : Nat) (h : k < la.length) (h' : k < lb.length) : pushes (la.take (k + 1)) (lb.take (k + 1)) = pushes (la.take k) (lb.take k) ++ pushOf la[k] lb[k] := by
  induction la generalizing lb k with
  | nil => simp at h
  | cons x r ih =>
    cases lb with
    | nil => simp at h'
    | cons y s =>
      cases k with
      | zero => simp [pushes]
      | succ k => simp only [List.take_succ_cons, pushes, List.getElem_cons_succ, ih s k (by simpa using h) (by simpa using h'), List.append_assoc]
theorem tops_at (la lb : List Ex) (k : Nat) (h : k < la.length) (h' : k < lb.length) : tops (la.take (k + 1)) (lb.take (k + 1)) = (tops (la.take k) (lb.take k) && topEq la[k] lb[k]) := by
  induction la generalizing lb k with
  | nil => simp at h
  | cons x r ih =>
    cases lb with
    | nil => simp at h'
    | cons y s =>
      cases k with
      | zero => simp [tops]
      | succ k => simp only [List.take_succ_cons, tops, List.getElem_cons_succ, ih s k (by simpa using h) (by simpa using h'), Bool.and_assoc]
theorem tops_false (la lb : List Ex) (k : Nat) (h : k < la.length) (h' : k < lb.length) (g : topEq la[k] lb[k] = false) : tops la lb = false := by
  induction la generalizing lb k with
  | nil => simp at h
  | cons x r ih =>
    cases lb with
    | nil => simp at h'
    | cons y s =>
      cases k with
      | zero => simp only [List.getElem_cons_zero] at g; simp [tops, g]
      | succ k => simp [tops, ih s k (by simpa using h) (by simpa using h') (by simpa using g)]
theorem size_args (x : Ex) : x.size = 1 + sizes x.args := by cases x; rfl
theorem prSizes_push (x y : Ex) : prSizes (pushOf x y) + 2 = x.size + y.size := by
  have h1 := size_args x
  have h2 := size_args y
  rw [pushOf]
  split
  · rename_i h
    rw [h.1] at h1
    rw [h.2] at h2
    simp only [sizes] at h1 h2
    simp only [prSizes]
    omega
  · simp only [prSizes]
    omega
theorem prSizes_pushes : ∀ la lb : List Ex, prSizes (pushes la lb) + 2 * min la.length lb.length ≤ sizes la + sizes lb
  | x :: r, y :: s => by
    have h1 := prSizes_push x y
    have h2 := prSizes_pushes r s
    simp only [pushes, prSizes_app, sizes, List.length_cons]
    omega
  | [], _ => by simp [pushes, prSizes]
  | _ :: _, [] => by simp [pushes, prSizes]
theorem prSizes_take (la lb : List Ex) (k : Nat) : prSizes (pushes (la.take k) (lb.take k)) ≤ sizes la + sizes lb := by
  have h1 := prSizes_pushes (la.take k) (lb.take k)
  have h2 := sizes_take la k
  have h3 := sizes_take lb k
  omega
def Pr.full (p : Pr) : Prop := p.la ≠ [] ∨ p.lb ≠ []
theorem pushOf_full {x y : Ex} {p : Pr} (h : p ∈ pushOf x y) : p.full ∧ p = ⟨x.ad, x.cap, x.args, y.ad, y.cap, y.args⟩ := by
  rw [pushOf] at h
  split at h
  · cases h
  · rename_i hne
    rw [List.mem_singleton] at h
    subst h
    refine ⟨?_, rfl⟩
    rw [Pr.full]
    by_cases hx : x.args = []
    · exact .inr fun hy => hne ⟨hx, hy⟩
    · exact .inl hx
theorem pushes_mem : ∀ {la lb : List Ex} {p : Pr}, p ∈ pushes la lb → ∃ x ∈ la, ∃ y ∈ lb, p ∈ pushOf x y
  | x :: r, y :: s, p, h => by
    rw [pushes, List.mem_append] at h
    rcases h with h | h
    · exact ⟨x, by simp, y, by simp, h⟩
    · obtain ⟨x', h1, y', h2, h3⟩ := pushes_mem h
      exact ⟨x', by simp [h1], y', by simp [h2], h3⟩
  | [], _, p, h => by simp [pushes] at h
  | _ :: _, [], p, h => by simp [pushes] at h
theorem full_len {ps : List Pr} (h : ∀ p ∈ ps, p.full) : ps.length ≤ prSizes ps := by
  induction ps with
  | nil => simp
  | cons p r ih =>
    have h1 : 1 ≤ sizes p.la + sizes p.lb := by
      rcases h p (by simp) with h | h
      · have := sizes_pos h; omega
      · have := sizes_pos h; omega
    have h2 := ih fun x hx => h x (by simp [hx])
    simp only [List.length_cons, prSizes]
    omega
theorem len_args_few {e : Ex} (h : e.bulk ≤ 1048576) : e.args.length ≤ 1048576 := by
  obtain ⟨kd, pl, nm, it, dn, a, cap, l⟩ := e
  simp only [Ex.bulk] at h
  have h1 := len_sizes l
  have h2 := sizes_bulk l
  show l.length ≤ _
  omega
/-- A list of expressions that lies still. -/
def StillS (B : Nat) (w W : World) (a : Option Addr) (l : List Ex) : Prop := (l ≠ [] → ∃ b o, a = some ⟨b, o, none⟩ ∧ b < B ∧ ∀ i (h : i < l.length) j, j < 6 → W.cell? ⟨b, o + i * 6 + j, none⟩ = l[i].cells[j]?) ∧ (∀ e ∈ l, e.lies w ∧ e.bulk ≤ 1048576) ∧ l.length ≤ 1048576
theorem still_args {B : Nat} {w W : World} (hb : Below w.heap.size w W) (hB : w.heap.size ≤ B) {e : Ex} (he : e.lies w) (hk : e.bulk ≤ 1048576) : StillS B w W e.ad e.args := by
  obtain ⟨kd, pl, nm, it, dn, a, cap, l⟩ := e
  obtain ⟨b, o, h1, h2⟩ := he
  simp only [Ex.bulk] at hk
  refine ⟨fun hne => ⟨b, o, h1 hne, ?_⟩, fun x hx => ?_, by have h1 := len_sizes l; have h2 := sizes_bulk l; show l.length ≤ _; omega⟩
  · have hlt : b < w.heap.size := by
      have h0 := (lieAt_get l o 0 h2 (List.length_pos_iff.2 hne)).1 0 (by omega)
      cases hz : l[0]'(List.length_pos_iff.2 hne)
      rw [hz] at h0
      exact World.block_lt_of_cell? w ⟨b, _, none⟩ h0
    exact ⟨by omega, fun i hi j hj => (hb.cell (p := ⟨b, _, none⟩) hlt).trans ((lieAt_get l o i h2 hi).1 j hj)⟩
  · obtain ⟨i, hi, rfl⟩ := List.getElem_of_mem hx
    exact ⟨(lieAt_get l o i h2 hi).2, Nat.le_trans (bulk_arg (l := l) hi) (by omega)⟩
theorem prow_cell {w : World} {B g cap : Nat} (ps : List Pr) (p : Pr) (h : w.ownsRow B 69 2 (.slice (some ⟨g, 0, none⟩) (ps.length + 1) cap) (ps.length + 1) (prCells (ps ++ [p]))) :
    w.cell? ⟨g, ps.length * 2, none⟩ = some (.slice p.aa p.la.length p.ca) ∧ w.cell? ⟨g, ps.length * 2 + 1, none⟩ = some (.slice p.ab p.lb.length p.cb) := by
  rw [h.cellAt _ (by omega), h.cellAt _ (by omega), prCells_app, ← prCells_len, List.getElem?_append_right (Nat.le_refl _), List.getElem?_append_right (by omega)]
  simp [prCells, Pr.cells]
end Go.Proofs.YthbjagmlcemefaaDoor
