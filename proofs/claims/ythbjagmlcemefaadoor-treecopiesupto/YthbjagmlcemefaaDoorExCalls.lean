/- The document's answer of layer 4: Calls. -/
import Derived.Test.YthbjagmlcemefaaDoorExTexts
import Derived.Laws.AppendOwnNone
import Derived.Deep.Onto
namespace Go.Proofs.YthbjagmlcemefaaDoor
open Go.RowKit
open Ex.size Ex.depth Ex.lies Ex.bulk Ex.good
attribute [local go_sem] later_size later_cell later_frozen later_setCell later_drew later_drewN later_tape drewN_setCell drewN_alloc drewN_later later_later lt_more lt_more1 lt_more2 lt_more3 lt_more4 lk0_0_1 lk1_0_1 lk2_0_1 lk0_0_2 lk1_0_2 lk2_0_2 lk0_1_2 lk0_0_3 lk1_0_3 lk2_0_3 lk0_1_3 lk0_2_3 lk0_0_4 lk1_0_4 lk2_0_4 lk0_1_4 lk0_2_4 lk0_3_4 lk0_0_5 lk1_0_5 lk2_0_5 lk0_1_5 lk0_2_5 lk0_3_5 lk0_4_5 lk0_0_6 lk1_0_6 lk2_0_6 lk0_1_6 lk0_2_6 lk0_3_6 lk0_4_6 lk0_5_6 lk0_0_7 lk1_0_7 lk2_0_7 lk0_1_7 lk0_2_7 lk0_3_7 lk0_4_7 lk0_5_7 lk0_6_7
/-- Whom it calls. -/
def Ex.calls : Ex → List ByteArray
  | .mk kd _ nm _ _ _ _ l => (if kd = 4 then [nm] else []) ++ callsAll l
where callsAll : List Ex → List ByteArray
  | [] => []
  | e :: r => e.calls ++ callsAll r
open Ex.calls
theorem calls_size : ∀ e : Ex, e.calls.length ≤ e.size
  | .mk kd _ nm _ _ _ _ l => by
    have := all l
    simp only [Ex.calls, Ex.size, List.length_append]
    split <;> simp <;> omega
where all : ∀ l : List Ex, (callsAll l).length ≤ sizes l
  | [] => by simp [callsAll, sizes]
  | e :: r => by
    have h1 := calls_size e
    have h2 := all r
    simp only [callsAll, sizes, List.length_append]
    omega
theorem callsAll_size (l : List Ex) : (callsAll l).length ≤ sizes l := calls_size.all l
theorem callsAll_at (l : List Ex) (i : Nat) (h : i < l.length) : callsAll (l.take (i + 1)) = callsAll (l.take i) ++ l[i].calls := by
  induction l generalizing i with
  | nil => simp at h
  | cons e r ih =>
    cases i with
    | zero => simp [callsAll]
    | succ i =>
      have := ih i (by simpa using h)
      simp only [List.take_succ_cons, callsAll, List.getElem_cons_succ]
      rw [this, List.append_assoc]
theorem textCells_append (a b : List ByteArray) : textCells (a ++ b) = textCells a ++ textCells b := by simp [textCells]
theorem textCells_len (a : List ByteArray) : (textCells a).length = a.length := by simp [textCells]
theorem text_one (l : List ByteArray) : ∀ u ∈ textCells l, u.oneCell' = true := by
  intro u hu
  simp only [textCells, List.mem_map] at hu
  obtain ⟨s, _, rfl⟩ := hu
  rfl
theorem Tryd.infoText : (Tryd.prog.info? 9).map (fun i => (i.zero, i.size, i.bytes)) = some (some (.string ⟨#[]⟩), 1, 16) := by kernel_rfl
/-- A row of texts of the call's own: nil where there are none. -/
structure Mine (w : World) (B : Nat) (v : Value) (l : List ByteArray) : Prop where
  own : w.ownsRow B 9 1 v l.length (textCells l)
  nil : l = [] → v = .slice none 0 0
theorem Mine.below {w w' : World} {B : Nat} {v : Value} {l : List ByteArray} (h : Mine w B v l) (hb : Below w.heap.size w w') : Mine w' B v l := by
  refine ⟨⟨h.own.1, ?_⟩, h.nil⟩
  rcases h.own.2 with h | ⟨g, cap, cur, hv, hb0, hg, rest⟩
  · exact .inl h
  · refine .inr ⟨g, cap, cur, hv, hb0, ?_, rest⟩
    rw [hb.block g]
    · exact hg
    · rcases Nat.lt_or_ge g w.heap.size with hlt | hge
      · exact hlt
      · rw [Array.getElem?_eq_none hge] at hg; cases hg
theorem Mine.mono {w : World} {B B' : Nat} {v : Value} {l : List ByteArray} (h : Mine w B v l) (hb : B' ≤ B) : Mine w B' v l := ⟨h.own.mono hb, h.nil⟩
theorem Mine.shape {w : World} {B : Nat} {v : Value} {l : List ByteArray} (h : Mine w B v l) : ∃ ao c, v = .slice ao l.length c := by
  rcases h.own.2 with ⟨rfl, h0⟩ | ⟨g, cap, cur, rfl, _⟩
  · exact ⟨none, 0, by rw [h0]⟩
  · exact ⟨_, _, rfl⟩
/-- What an append leaves of the memory: the box's slice, what is below. -/
theorem grown_texts {w w1 w2 : World} {v : Value} {n : Nat} {xs : List Value} (hb : Below w.heap.size w w1) (ho : w1.ownsRow (w.heap.size + 1) 9 1 v n xs) (hg : w1.grownBy w2 v.ownBlock) (hs : w.heap.size < w1.heap.size) :
    w2.cell? ⟨w.heap.size, 5, none⟩ = w1.cell? ⟨w.heap.size, 5, none⟩ ∧ w.heap.size < w2.heap.size ∧ Below w.heap.size w w2 := by
  have hne : ∀ k, k ≤ w.heap.size → some k ≠ v.ownBlock := fun k hk e => by
    have := ho.lt k e.symm
    omega
  have hsz := hg.size
  have hblock : ∀ k, k ≤ w.heap.size → w2.heap[k]? = w1.heap[k]? := fun k hk => hg.block k (by omega) (hne k hk)
  exact ⟨World.cell?_of_block (hblock w.heap.size (Nat.le_refl _)), by omega, ⟨hg.os.trans hb.os, hg.tape.trans hb.tape, hg.output.trans hb.output, by omega, fun k hk => (hblock k (by omega)).trans (hb.block k hk)⟩⟩
end Go.Proofs.YthbjagmlcemefaaDoor
