/- Package show: what the walks of its writers share. -/
import Derived.Test.YtbahpbinilnfoaaDoorShowSmall
import Derived.Test.YtbahpbinilnfoaaDoorShowRead
import Derived.Test.YtbahpbinilnfoaaDoorExOpen
namespace Go.Proofs.YtbahpbinilnfoaaDoor
open Go.RowKit
open Ex.size Ex.depth Ex.lies Ex.bulk Ex.good Ex.shape Ex.text
/-- There is room for a text behind a text. -/
def room (s t : List UInt8) : Prop := s.length + t.length ≤ 140737488355328
theorem room_app {s t u : List UInt8} (h : room s (t ++ u)) : room s t ∧ room (s ++ t) u := by
  simp only [room, List.length_append] at *
  omega
theorem heap_at {w : World} {o : Obj} {k : Nat} (h : k = w.heap.size) : (w.alloc o).heap[k]? = some o := by
  subst h
  exact Array.getElem?_push_size
/-- The closure's value. -/
def pv (b : Nat) : Value := .func (.func 19) #[] #[.pointer (some ⟨b, 0, none⟩)]
theorem put_text {W w : World} {b : Nat} {s t : List UInt8} (l : List ByteArray) (g c : Nat) (ht : flat l = t) (h : Writes W b s w) (hg : w.heap[g]? = some (.cells (l.map Value.string).toArray 9 (0, 0))) (hgb : g ≠ b) (hn : l.length ≤ 1048576) (hl : room s t) :
    Calls Tryd.prog 19 #[.slice (some ⟨g, 0, none⟩) l.length c, .pointer (some ⟨b, 0, none⟩)] w fun x w' => x = .returned (.tuple #[]) ∧ Writes W b (s ++ t) w' ∧ Keeps b w w' := by
  subst ht
  exact put_calls l g c h hg hgb hn hl
/-- The parts in a new block. -/
theorem put_new {W w : World} {b : Nat} {s t : List UInt8} (l : List ByteArray) (g c : Nat) (ht : flat l = t) (hg : g = w.heap.size) (h : Writes W b s w) (hn : l.length ≤ 1048576) (hl : room s t) :
    Calls Tryd.prog 19 #[.slice (some ⟨g, 0, none⟩) l.length c, .pointer (some ⟨b, 0, none⟩)] (w.alloc (.cells (l.map Value.string).toArray 9)) fun x w' => x = .returned (.tuple #[]) ∧ Writes W b (s ++ t) w' ∧ Keeps b w w' := by
  refine (put_text l g c ht (h.alloc _) (heap_at hg) (by have := h.lt; omega) hn hl).mono ?_
  rintro x w' ⟨rfl, h1, h2⟩
  exact ⟨rfl, h1, ((Keeps.refl _ _).alloc _).trans h2⟩
theorem hidW_alloc {W w : World} {b : Nat} {s : List UInt8} (o : Obj) (h : Hid (Writes W b s w)) : Hid (Writes W b s (w.alloc o)) := h.out.alloc o
theorem hidK_alloc {W w : World} {b : Nat} (o : Obj) (h : Hid (Keeps b W w)) : Hid (Keeps b W (w.alloc o)) := h.out.alloc o
/-- Six cells that lie in the world of old lie in the one that has grown. -/
theorem six_old {W w : World} {b o : Nat} {e : Ex} (h : Below W.heap.size W w) (hc : ∀ j, j < 6 → W.cell? ⟨b, o + j, none⟩ = e.cells[j]?) : ∀ j, j < 6 → w.cell? ⟨b, o + j, none⟩ = e.cells[j]? := fun j hj => by
  have h0 := hc 0 (by omega)
  have hlt : b < W.heap.size := by
    cases e
    exact World.block_lt_of_cell? W ⟨b, o + 0, none⟩ h0
  exact (h.cell (p := ⟨b, o + j, none⟩) hlt).trans (hc j hj)
/-- A box of an expression. -/
theorem six_box {w : World} {k : Nat} {e : Ex} (h : w.heap[k]? = some (.cells e.cells.toArray 41 (0, 0))) : ∀ j, j < 6 → w.cell? ⟨k, j, none⟩ = e.cells[j]? := fun j _ => by
  rw [cell_of_row h]
  simp
/-- The program's putExpr puts an expression's text. -/
def PutsExpr (W : World) (b : Nat) (e : Ex) : Prop := ∀ s w, Writes W b s w → room s e.text → Calls Tryd.prog 25 #[pv b, e.val] w fun x w' => x = .returned (.tuple #[]) ∧ Writes W b (s ++ e.text) w' ∧ Keeps b w w'
def PutsAt (W : World) (b : Nat) (e : Ex) (n : Int) : Prop := ∀ s w, Writes W b s w → room s (par n (e.kd, e.text)) → Calls Tryd.prog 44 #[pv b, e.val, .int .i64 n] w fun x w' => x = .returned (.tuple #[]) ∧ Writes W b (s ++ par n (e.kd, e.text)) w' ∧ Keeps b w w'
end Go.Proofs.YtbahpbinilnfoaaDoor
