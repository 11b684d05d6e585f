/- What is left of a tree that is gone through: levels, each a row of expressions and how deep they stand; how they lie in memory. No program in sight but the layout of two cells a level. -/
import Derived.Test.YtbahpbinilnfoaaDoorExOpen
import Derived.Test.YtbahpbinilnfoaaDoorProg
import Derived.WalkSmall
import Derived.Deep.AppendLies
import Derived.OwnWalk
import Derived.Laws.OwnMore
namespace Go.Proofs.YtbahpbinilnfoaaDoor
open Go.RowKit
open Ex.size Ex.depth Ex.lies Ex.bulk Ex.good
/-- A level: where its expressions lie, the room there, the expressions, how deep. -/
structure Fr where
  b : Nat
  o : Nat
  c : Nat
  l : List Ex
  d : Nat
def Fr.cells (f : Fr) : List Value := [.slice (some ⟨f.b, f.o, none⟩) f.l.length f.c, .int .i64 f.d]
def frCells : List Fr → List Value
  | [] => []
  | f :: r => f.cells ++ frCells r
def frSizes : List Fr → Nat
  | [] => 0
  | f :: r => sizes f.l + frSizes r
theorem frCells_len (fs : List Fr) : (frCells fs).length = fs.length * 2 := by
  induction fs with
  | nil => rfl
  | cons f r ih => simp only [frCells, List.length_append, ih, Fr.cells, List.length_cons, List.length_nil]; omega
theorem frCells_app (a b : List Fr) : frCells (a ++ b) = frCells a ++ frCells b := by
  induction a with
  | nil => rfl
  | cons f r ih => simp only [List.cons_append, frCells, ih, List.append_assoc]
theorem frSizes_app (a b : List Fr) : frSizes (a ++ b) = frSizes a + frSizes b := by
  induction a with
  | nil => simp [frSizes]
  | cons f r ih => simp only [List.cons_append, frSizes, ih]; omega
/-- A level is not empty, its room is enough, it is not too deep. -/
def Fr.fits (f : Fr) : Prop := f.l ≠ [] ∧ f.l.length ≤ f.c ∧ f.c ≤ maxLen ∧ f.d + sizes f.l ≤ 1048577
def fitAll (fs : List Fr) : Prop := ∀ f ∈ fs, f.fits
theorem fitAll_app {a b : List Fr} : fitAll (a ++ b) ↔ fitAll a ∧ fitAll b := by
  simp only [fitAll, List.mem_append]
  exact ⟨fun h => ⟨fun f hf => h f (.inl hf), fun f hf => h f (.inr hf)⟩, fun h f hf => hf.elim (h.1 f) (h.2 f)⟩
theorem sizes_pos {l : List Ex} (h : l ≠ []) : 1 ≤ sizes l := by
  cases l with
  | nil => exact absurd rfl h
  | cons e r => have := size_pos e; simp only [sizes]; omega
theorem len_frSizes {fs : List Fr} (h : fitAll fs) : fs.length ≤ frSizes fs := by
  induction fs with
  | nil => simp
  | cons f r ih =>
    have h1 := sizes_pos (h f (by simp)).1
    have h2 := ih fun x hx => h x (by simp [hx])
    simp only [List.length_cons, frSizes]
    omega
/-- Behind the level that was read: what is left of it, and its first expression's Args. -/
def nextFrs (fs : List Fr) (b o c : Nat) (l : List Ex) (d b' o' c' : Nat) (args : List Ex) : List Fr :=
  (fs ++ (if l = [] then [] else [⟨b, o + 6, c - 1, l, d⟩])) ++ (if args = [] then [] else [⟨b', o', c', args, d + 1⟩])
theorem size_of_args (e : Ex) : e.size = 1 + sizes e.args := by cases e; rfl
theorem frSizes_next (fs : List Fr) (b o c : Nat) (e : Ex) (l : List Ex) (d b' o' c' : Nat) : frSizes (nextFrs fs b o c l d b' o' c' e.args) + 1 = frSizes (fs ++ [⟨b, o, c, e :: l, d⟩]) := by
  have h := size_of_args e
  simp only [nextFrs, frSizes_app, frSizes, sizes]
  split <;> split <;> simp_all [frSizes, sizes] <;> omega
theorem fit_next {fs : List Fr} {b o c : Nat} {e : Ex} {l : List Ex} {d b' o' c' : Nat} (h : fitAll (fs ++ [⟨b, o, c, e :: l, d⟩])) (h1 : e.args.length ≤ c') (h2 : c' ≤ maxLen) : fitAll (nextFrs fs b o c l d b' o' c' e.args) := by
  obtain ⟨ha, hb⟩ := fitAll_app.1 h
  have hf := hb ⟨b, o, c, e :: l, d⟩ (by simp)
  obtain ⟨-, f2, f3, f4⟩ := hf
  simp only [sizes, List.length_cons] at f2 f3 f4
  have hs := size_of_args e
  rw [nextFrs, fitAll_app, fitAll_app]
  refine ⟨⟨ha, ?_⟩, ?_⟩
  · split
    · intro f hf; cases hf
    · rename_i hne
      intro f hf
      rw [List.mem_singleton] at hf
      subst hf
      have := size_pos e
      exact ⟨hne, by show l.length ≤ c - 1; omega, by show c - 1 ≤ maxLen; omega, by show d + sizes l ≤ 1048577; omega⟩
  · split
    · intro f hf; cases hf
    · rename_i hne
      intro f hf
      rw [List.mem_singleton] at hf
      subst hf
      exact ⟨hne, h1, h2, by show d + 1 + sizes e.args ≤ 1048577; omega⟩
/-- The blocks of levels are as they were. -/
def keepsLevels (w w' : World) : Prop := ∀ (k : Nat) (cur : Array Value), w.heap[k]? = some (.cells cur 111 (0, 0)) → w'.heap[k]? = some (.cells cur 111 (0, 0))
/-- All is as it was but for blocks of levels from B on. -/
structure ButLevels (B : Nat) (w w' : World) : Prop where
  os : w'.os = w.os
  tape : w'.tape = w.tape
  output : w'.output = w.output
  size : w.heap.size ≤ w'.heap.size
  block : ∀ k, k < w.heap.size → (k < B ∨ ∀ cur, w.heap[k]? ≠ some (.cells cur 111 (0, 0))) → w'.heap[k]? = w.heap[k]?
theorem ButLevels.below {B : Nat} {w w' : World} (h : ButLevels B w w') (hB : B ≤ w.heap.size) : Below B w w' := ⟨h.os, h.tape, h.output, h.size, fun k hk => h.block k (by omega) (.inl hk)⟩
theorem row_level {w : World} {B n : Nat} {v : Value} {xs : List Value} (h : w.ownsRow B 111 2 v n xs) {k : Nat} (hk : v.ownBlock = some k) : ∃ cur, w.heap[k]? = some (.cells cur 111 (0, 0)) := by
  rcases h.2 with ⟨rfl, _⟩ | ⟨g, cap, cur, rfl, _, hg, _⟩
  · cases hk
  · cases hk
    exact ⟨cur, hg⟩
theorem butLevels_grown {B : Nat} {w w' : World} {n : Nat} {v : Value} {xs : List Value} (h : w.ownsRow B 111 2 v n xs) (hg : w.grownBy w' v.ownBlock) : ButLevels B w w' := by
  refine ⟨hg.os, hg.tape, hg.output, hg.size, fun k hk hk2 => hg.block k hk fun e => ?_⟩
  obtain ⟨cur, hc⟩ := row_level h e.symm
  have hl := (h.lt k e.symm).1
  rcases hk2 with h1 | h1
  · omega
  · exact h1 cur hc
theorem butLevels_alloc {B : Nat} (w : World) (o : Obj) : ButLevels B w (w.alloc o) := ⟨rfl, rfl, rfl, by simp, fun k hk _ => Below.heap_alloc _ _ _ hk⟩
theorem butLevels_drewN {B : Nat} {w w' : World} (h : ButLevels B w w') (n : Nat) : ButLevels B w (w'.drewN n) := ⟨h.os, h.tape, h.output, h.size, h.block⟩
theorem butLevels_trans {B : Nat} {w w1 w2 : World} (h : ButLevels B w w1) (k : ButLevels B w1 w2) : ButLevels B w w2 :=
  ⟨k.os.trans h.os, k.tape.trans h.tape, k.output.trans h.output, Nat.le_trans h.size k.size, fun i hi hc => by
    have e := h.block i hi hc
    refine (k.block i (Nat.lt_of_lt_of_le hi h.size) ?_).trans e
    rcases hc with hc | hc
    · exact .inl hc
    · exact .inr fun cur => by rw [e]; exact hc cur⟩
theorem row_drewN {w : World} {B n : Nat} {v : Value} {xs : List Value} (h : w.ownsRow B 111 2 v n xs) (q : Nat) : (w.drewN q).ownsRow B 111 2 v n xs := h
theorem len_le_sizes (l : List Ex) : l.length ≤ sizes l := by
  induction l with
  | nil => simp
  | cons e r ih => have := size_pos e; simp only [List.length_cons, sizes]; omega
theorem args_few {fs : List Fr} {b o c : Nat} {e : Ex} {l : List Ex} {d : Nat} (h : frSizes (fs ++ [⟨b, o, c, e :: l, d⟩]) ≤ 1048576) : e.args.length ≤ 1048576 := by
  have h1 := len_le_sizes e.args
  have h2 := size_of_args e
  rw [frSizes_app] at h
  simp only [frSizes, sizes] at h
  omega
theorem row_kept {w w' : World} {B n : Nat} {v : Value} {xs : List Value} (h : w.ownsRow B 111 2 v n xs) (hk : keepsLevels w w') : w'.ownsRow B 111 2 v n xs := by
  refine ⟨h.1, ?_⟩
  rcases h.2 with h | ⟨g, cap, cur, rfl, hb, hg, r⟩
  · exact .inl h
  · exact .inr ⟨g, cap, cur, rfl, hb, hk g cur hg, r⟩
theorem row_set (fs : List Fr) (f f' : Fr) (hd : f'.d = f.d) : (frCells (fs ++ [f])).set (fs.length * 2) (.slice (some ⟨f'.b, f'.o, none⟩) f'.l.length f'.c) = frCells (fs ++ [f']) := by
  rw [frCells_app, frCells_app, ← frCells_len, List.set_append_right _ _ (Nat.le_refl _), Nat.sub_self]
  simp [frCells, Fr.cells, hd]
theorem row_set' (fs : List Fr) (f : Fr) (u : Value) : (frCells (fs ++ [f])).set (fs.length * 2) u = frCells fs ++ [u, .int .i64 f.d] := by
  rw [frCells_app, ← frCells_len, List.set_append_right _ _ (Nat.le_refl _), Nat.sub_self]
  simp [frCells, Fr.cells]
theorem row_cell0 {w : World} {B g cap : Nat} (fs : List Fr) (f : Fr) (h : w.ownsRow B 111 2 (.slice (some ⟨g, 0, none⟩) (fs.length + 1) cap) (fs.length + 1) (frCells (fs ++ [f]))) :
    w.cell? ⟨g, fs.length * 2, none⟩ = some (.slice (some ⟨f.b, f.o, none⟩) f.l.length f.c) ∧ w.cell? ⟨g, fs.length * 2 + 1, none⟩ = some (.int .i64 f.d) := by
  rw [h.cellAt _ (by omega), h.cellAt _ (by omega), frCells_app, ← frCells_len, List.getElem?_append_right (Nat.le_refl _), List.getElem?_append_right (by omega)]
  simp [frCells, Fr.cells]
theorem least_spec {p : Nat → Prop} (h : ∃ m, p m) : p (Classical.epsilon fun m => p m ∧ ∀ k, p k → m ≤ k) ∧ ∀ k, p k → (Classical.epsilon fun m => p m ∧ ∀ k, p k → m ≤ k) ≤ k := by
  have ex : ∃ m, p m ∧ ∀ k, p k → m ≤ k := by
    obtain ⟨m, hm⟩ := h
    induction m using Nat.strongRecOn with
    | _ m ih =>
      by_cases hlt : ∃ k, k < m ∧ p k
      · obtain ⟨k, h1, h2⟩ := hlt
        exact ih k h1 h2
      · exact ⟨m, hm, fun k hk => Nat.le_of_not_lt fun h => hlt ⟨k, h, hk⟩⟩
  exact Classical.epsilon_spec ex
end Go.Proofs.YtbahpbinilnfoaaDoor
