/- The program's closure of package show that puts parts behind what stands there. -/
import Derived.Test.YtbahpbinilnfoaaDoorShowPlain
import Derived.Test.YtbahpbinilnfoaaDoorShelfB
import Derived.Test.YtbahpbinilnfoaaDoorLater
import Derived.WalkKit
import Derived.Lib.OthersKept
namespace Go.Proofs.YtbahpbinilnfoaaDoor
open Go.RowKit
attribute [local go_sem] later_size later_cell later_frozen later_setCell later_drew later_drewN later_tape drewN_setCell drewN_alloc drewN_later later_later lt_more lt_more1 lt_more2 lt_more3 lt_more4 lk0_0_1 lk1_0_1 lk2_0_1 lk0_0_2 lk1_0_2 lk2_0_2 lk0_1_2 lk0_0_3 lk1_0_3 lk2_0_3 lk0_1_3 lk0_2_3 lk0_0_4 lk1_0_4 lk2_0_4 lk0_1_4 lk0_2_4 lk0_3_4 lk0_0_5 lk1_0_5 lk2_0_5 lk0_1_5 lk0_2_5 lk0_3_5 lk0_4_5 lk0_0_6 lk1_0_6 lk2_0_6 lk0_1_6 lk0_2_6 lk0_3_6 lk0_4_6 lk0_5_6 lk0_0_7 lk1_0_7 lk2_0_7 lk0_1_7 lk0_2_7 lk0_3_7 lk0_4_7 lk0_5_7 lk0_6_7
/-- Parts, one behind the other. -/
def flat (l : List ByteArray) : List UInt8 := (l.map (·.data.toList)).flatten
theorem flat_at (l : List ByteArray) (k : Nat) (h : k < l.length) : flat (l.take (k + 1)) = flat (l.take k) ++ l[k].data.toList := by
  rw [flat, flat, List.take_succ_eq_append_getElem h, List.map_append, List.flatten_append]
  simp only [List.map_cons, List.map_nil, List.flatten_cons, List.flatten_nil, List.append_nil]
theorem flat_take_le (l : List ByteArray) (k : Nat) : (flat (l.take k)).length ≤ (flat l).length := by
  have e : flat l = flat (l.take k) ++ flat (l.drop k) := by rw [flat, flat, flat, ← List.flatten_append, ← List.map_append, List.take_append_drop]
  rw [e, List.length_append]
  omega
/-- A writer's state: the world has grown out of W; in block b a builder with that text. -/
structure Writes (W : World) (b : Nat) (s : List UInt8) (w : World) : Prop where
  bel : Below W.heap.size W w
  bld : Lib.IsBuilderF 61 5 W.heap.size b (Lib.byteCells s) w
/-- Every block but the builder's and its bytes is as it was. -/
structure Keeps (b : Nat) (w w' : World) : Prop where
  size : w.heap.size ≤ w'.heap.size
  kept : Lib.OthersKept 5 (some b) w w'
theorem Keeps.refl (b : Nat) (w : World) : Keeps b w w := ⟨Nat.le_refl _, Lib.OthersKept.refl _ _ _⟩
theorem Keeps.trans {b : Nat} {w w1 w2 : World} (h : Keeps b w w1) (k : Keeps b w1 w2) : Keeps b w w2 := ⟨Nat.le_trans h.size k.size, h.kept.trans k.kept⟩
theorem Keeps.alloc {b : Nat} {w w1 : World} (h : Keeps b w w1) (o : Obj) : Keeps b w (w1.alloc o) := ⟨by have := h.size; simp; omega, h.kept.alloc o⟩
theorem Keeps.drewN {b : Nat} {w w1 : World} (h : Keeps b w w1) (n : Nat) : Keeps b w (w1.drewN n) := ⟨h.size, h.kept⟩
theorem Keeps.below {b : Nat} {w w1 w2 : World} (h : Keeps b w w1) (k : Below w1.heap.size w1 w2) : Keeps b w w2 :=
  ⟨Nat.le_trans h.size k.size, fun i o hi hb ho => (k.block i (lt_of_block (h.kept i o hi hb ho))).trans (h.kept i o hi hb ho)⟩
theorem Writes.size {W w : World} {b : Nat} {s : List UInt8} (h : Writes W b s w) : W.heap.size ≤ w.heap.size := h.bel.size
theorem Writes.lt {W w : World} {b : Nat} {s : List UInt8} (h : Writes W b s w) : b < w.heap.size := h.bld.elim (·.lt) (·.lt)
theorem Writes.le {W w : World} {b : Nat} {s : List UInt8} (h : Writes W b s w) : W.heap.size ≤ b := h.bld.elim (·.1) (·.1)
theorem builder_below {T e : TypeId} {B b : Nat} {p : Value} {bs : List Value} {w w' : World} (h : Lib.BuilderAtF T e B b p bs w) (k : Below w.heap.size w w') : Lib.BuilderAtF T e B b p bs w' := by
  obtain ⟨hB, v, hb, hown, hne⟩ := h
  refine ⟨hB, v, (k.block b (lt_of_block hb)).trans hb, ⟨hown.1, ?_⟩, hne⟩
  rcases hown.2 with hn | ⟨g, cap, cur, fz, hv, hbg, hg, rest⟩
  · exact .inl hn
  · exact .inr ⟨g, cap, cur, fz, hv, hbg, (k.block g (lt_of_block hg)).trans hg, rest⟩
/-- What makes memory and turns none keeps it. -/
theorem Writes.below {W w w' : World} {b : Nat} {s : List UInt8} (h : Writes W b s w) (k : Below w.heap.size w w') : Writes W b s w' :=
  ⟨h.bel.trans (k.mono h.size), h.bld.elim (fun x => .inl (builder_below x k)) (fun x => .inr (builder_below x k))⟩
theorem Writes.alloc {W w : World} {b : Nat} {s : List UInt8} (h : Writes W b s w) (o : Obj) : Writes W b s (w.alloc o) := h.below ((Below.refl _ _).alloc (Nat.le_refl _) _)
theorem Writes.drewN {W w : World} {b : Nat} {s : List UInt8} (h : Writes W b s w) (n : Nat) : Writes W b s (w.drewN n) := h.below ((Gr.refl w).drewN n).below
/-- A block of another type stands. -/
theorem Keeps.block {b k : Nat} {w w' : World} {c : Array Value} {T : TypeId} (h : Keeps b w w') (hk : w.heap[k]? = some (.cells c T (0, 0))) (hb : k ≠ b) (hT : T ≠ 5) : w'.heap[k]? = some (.cells c T (0, 0)) :=
  h.kept k _ hk (fun e => hb (Option.some.inj e)) (fun c fz e => by cases e; exact hT rfl)
theorem cell_of_row {w : World} {k : Nat} {c : Array Value} {T : TypeId} (h : w.heap[k]? = some (.cells c T (0, 0))) (j : Nat) : w.cell? ⟨k, j, none⟩ = c[j]? := by
  simp [World.cell?, h]
theorem Tryd.builderExtra : Builder.Extra Tryd.prog Tryd.lays166_ren where
  sizeBuilder := by kernel_rfl
  liesBuilder := by kernel_rfl
  t5 := Tryd.underlying5
  a5 := Tryd.isAgg5
  z5 := Tryd.sizeOf5
  v5 := Tryd.zeroValue5
  infoByte := by kernel_rfl
  cellsByte := by kernel_rfl
  sizeByte := by kernel_rfl
  neB5 := by decide
theorem write_calls {W w : World} {b : Nat} {s : List UInt8} (t : ByteArray) (h : Writes W b s w) (hl : s.length + t.size ≤ 140737488355328) :
    Calls Tryd.prog 20 #[.pointer (some ⟨b, 0, none⟩), .string t] w fun e w' => e = .returned (.tuple #[.int .i64 t.size, .nilIface]) ∧ Writes W b (s ++ t.data.toList) w' ∧ Keeps b w w' := by
  have C := Any.Builder_WriteString_k Tryd.lays166 Tryd.builderExtra W.heap.size b (Lib.byteCells s) t w h.bld (by rw [Lib.byteCells_length]; exact hl) h.size
  refine Calls.mono C ?_
  rintro e w' ⟨rfl, hb, hbl, hk⟩
  refine ⟨rfl, ⟨h.bel.trans hbl, .inr ?_⟩, ⟨hbl.size, hk⟩⟩
  rw [Lib.strCells_eq, ← Lib.byteCells_append] at hb
  exact hb
set_option maxRecDepth 100000 in
set_option maxHeartbeats 3200000 in
theorem put_calls {W w : World} {b : Nat} {s : List UInt8} (l : List ByteArray) (g c : Nat) (h : Writes W b s w) (hg : w.heap[g]? = some (.cells (l.map Value.string).toArray 9 (0, 0))) (hgb : g ≠ b) (hn : l.length ≤ 1048576) (hl : s.length + (flat l).length ≤ 140737488355328) :
    Calls Tryd.prog 19 #[.slice (some ⟨g, 0, none⟩) l.length c, .pointer (some ⟨b, 0, none⟩)] w fun x w' => x = .returned (.tuple #[]) ∧ Writes W b (s ++ flat l) w' ∧ Keeps b w w' := by
  obtain ⟨n, hn2⟩ : ∃ n, n = l.length := ⟨_, rfl⟩
  rw [← hn2] at hn ⊢
  have HN : Hid (n = l.length) := hn2
  have HW : Hid _ := h
  have HG : Hid _ := hg
  have HGB : Hid _ := hgb
  have HL : Hid _ := hl
  clear hn2 h hg hgb hl
  go_enter Tryd.func19, Tryd.ntmps19
  go_wp2_with fail
  go_loopw [7] (fun i wr => ∃ k : Nat, k ≤ n ∧ i = .int .i64 k ∧ Hid (Writes W b (s ++ flat (l.take k)) wr) ∧ Hid (Keeps b w wr)) (fun i _ => n - (intOf i).toNat)
  case atStart => exact ⟨0, by omega, rfl, by simpa [Hid, flat] using HW.out, Keeps.refl _ _⟩
  case round =>
    obtain ⟨k, hk, rfl, HWr, HK⟩ := hrel
    by_cases hlt : k < n
    · have hkl : k < l.length := by rw [← HN.out]; exact hlt
      have c0 : wr.cell? ⟨g, k, none⟩ = some (.string l[k]) := by
        rw [cell_of_row (HK.out.block HG.out HGB.out (by decide))]
        simp [hkl]
      have HF : Hid (flat (l.take (k + 1)) = flat (l.take k) ++ l[k].data.toList) := flat_at l k hkl
      have CW := write_calls l[k] HWr.out (by have h1 := HF.out; have h2 := flat_take_le l (k + 1); have h3 := HL.out; rw [h1] at h2; simp only [List.length_append] at h2 ⊢; have h4 : l[k].data.toList.length = l[k].size := (by simp); omega)
      generalize l[k] = t at *
      clear hkl
      go_wp2_with fail
      refine CW.mono ?_
      rintro e w2 ⟨rfl, hw2, hk2⟩
      have HW2 : Hid (Writes W b (s ++ flat (l.take (k + 1))) w2) := by rw [Hid, HF.out, ← List.append_assoc]; exact hw2
      have HK2 : Hid (Keeps b w w2) := HK.out.trans hk2
      clear CW hw2 hk2 c0
      go_wp2_with fail
      go_roundw
      case rel => exact ⟨k + 1, by omega, by go_num, HW2, HK2⟩
      case measure => simp [intOf]; omega
    · obtain rfl : k = n := by omega
      have HWE : Hid (Writes W b (s ++ flat l) wr) := by have := HWr.out; rw [HN.out, List.take_length] at this; exact this
      go_wp2_with fail
      go_end0
      exact ⟨rfl, HWE.out, HK.out⟩
end Go.Proofs.YtbahpbinilnfoaaDoor
