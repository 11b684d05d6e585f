/- An expression that came in, opened: the tree that lies in memory, no greater than what was read. -/
import Derived.Test.YtbahpbinilnfoaaDoorRows
import Derived.Test.YtbahpbinilnfoaaDoorExPlain
import Derived.ProofKit
namespace Go.Proofs.YtbahpbinilnfoaaDoor
open Go.ChangeShapes Go.WideShapes Go.RowKit
open Ex.size Ex.depth Ex.lies
/-- Expressions and letters. -/
def Ex.bulk : Ex → Nat
  | .mk _ _ nm _ _ _ _ l => 1 + nm.size + bulks l
where bulks : List Ex → Nat
  | [] => 0
  | e :: r => e.bulk + bulks r
open Ex.bulk
/-- Each number fits its kind, the Args fit their room. -/
def Ex.good : Ex → Prop
  | .mk kd pl nm it dn _ cap l => ((Lit.int .u8 kd).wf = true ∧ (Lit.int .i64 pl).wf = true ∧ nm.size ≤ maxLen ∧ (Lit.int .i64 it).wf = true ∧ (Lit.int .i64 dn).wf = true ∧ l.length ≤ cap ∧ cap ≤ maxLen) ∧ goods l
where goods : List Ex → Prop
  | [] => True
  | e :: r => e.good ∧ goods r
open Ex.good
theorem goods_get {l : List Ex} {i : Nat} (h : goods l) (hi : i < l.length) : l[i].good := by
  induction l generalizing i with
  | nil => simp at hi
  | cons e r ih =>
    cases i with
    | zero => exact h.1
    | succ i => exact ih h.2 (by simpa using hi)
theorem size_bytes (s : ByteArray) : s.data.toList.length = s.size := by
  rw [Array.length_toList]
  rfl
theorem Tryd.exprCells : Tryd.prog.cellsOf 41 = 6 := by kernel_rfl
theorem addr_add (b o k : Nat) : (⟨b, o, none⟩ : Addr).add k = ⟨b, o + k, none⟩ := by unfold Addr.add; split <;> simp_all
theorem build_exs {H : Type} (w : World) (b : Nat) : ∀ (els : List (DataW H × List MemPlace)) (o : Nat), (∀ i (h : i < els.length), ∃ e : Ex, (∀ j, j < 6 → w.cell? ⟨b, o + i * 6 + j, none⟩ = e.cells[j]?) ∧ e.lies w ∧ e.good ∧ e.bulk ≤ Rows.uptoBulk els[i].1) →
    ∃ l : List Ex, l.length = els.length ∧ lieAt w b o l ∧ goods l ∧ bulks l ≤ Rows.uptoBulkAll (els.map (·.1))
  | [], _, _ => ⟨[], rfl, trivial, trivial, by simp [bulks]⟩
  | y :: r, o, h => by
    obtain ⟨e, h1, h2, h3, h4⟩ := h 0 (by simp)
    obtain ⟨l, i1, i2, i3, i4⟩ := build_exs w b r (o + 6) (fun i hi => by
      obtain ⟨e, k1, k2, k3, k4⟩ := h (i + 1) (by simpa using hi)
      exact ⟨e, fun j hj => by have := k1 j hj; rwa [show o + (i + 1) * 6 + j = o + 6 + i * 6 + j by omega] at this, k2, k3, k4⟩)
    refine ⟨e :: l, by simp [i1], ⟨fun j hj => ?_, h2, i2⟩, ⟨h3, i3⟩, ?_⟩
    · have := h1 j hj
      simpa using this
    · simp only [bulks, List.map_cons, Rows.uptoBulkAll]
      simp only [List.getElem_cons_zero] at h4
      omega
set_option maxRecDepth 100000 in
theorem open_ex {H : Type} {enc : TypeId × Value → H} {w : World} {base : Nat} {sp : Nat → Bool} {hd : Bool} (fuel : Nat) : ∀ (cs : List Value) (x : DataW H × List MemPlace), DataW.trod enc Tryd.prog w base sp hd fuel 41 cs = some x →
    ∃ e : Ex, cs = e.cells ∧ e.lies w ∧ e.good ∧ e.bulk ≤ Rows.uptoBulk x.1 := by
  induction fuel using Nat.strongRecOn with
  | _ fuel ih =>
    intro cs x h
    obtain ⟨xs, n, rfl, rfl, hlen, hxl, hf⟩ := DataW.trod_struct Tryd.underlying41 h
    rw [Tryd.exprCells] at hlen
    have q5 : Tryd.prog.cellsOf 5 = 1 := by kernel_rfl
    have q3 : Tryd.prog.cellsOf 3 = 1 := by kernel_rfl
    have q9 : Tryd.prog.cellsOf 9 = 1 := by kernel_rfl
    have q2 : Tryd.prog.cellsOf 2 = 1 := by kernel_rfl
    have qa : Tryd.prog.cellsOf 39 = 1 := by kernel_rfl
    match cs, hlen with
    | [v0, v1, v2, v3, v4, v5], _ =>
    match xs, hxl with
    | [y0, y1, y2, y3, y4, y5], _ =>
    have h0 : DataW.trod enc Tryd.prog w base sp hd n 5 [v0] = some y0 := by
      have := hf 0 _ rfl
      simpa [q5] using this
    have h1 : DataW.trod enc Tryd.prog w base sp hd n 3 [v1] = some y1 := by
      have := hf 1 _ rfl
      simpa [q3] using this
    have h2 : DataW.trod enc Tryd.prog w base sp hd n 9 [v2] = some y2 := by
      have := hf 2 _ rfl
      simpa [q9] using this
    have h3 : DataW.trod enc Tryd.prog w base sp hd n 2 [v3] = some y3 := by
      have := hf 3 _ rfl
      simpa [q2] using this
    have h4 : DataW.trod enc Tryd.prog w base sp hd n 2 [v4] = some y4 := by
      have := hf 4 _ rfl
      simpa [q2] using this
    have h5 : DataW.trod enc Tryd.prog w base sp hd n 39 [v5] = some y5 := by
      have := hf 5 _ rfl
      simpa [qa] using this
    obtain ⟨kd, e0, rfl, w0⟩ := DataW.trod_int Tryd.underlying5 h0
    obtain ⟨pl, e1, rfl, w1⟩ := DataW.trod_int Tryd.underlying3 h1
    obtain ⟨nm, e2, rfl, w2⟩ := DataW.trod_string Tryd.underlying9 h2
    obtain ⟨it, e3, rfl, w3⟩ := DataW.trod_int Tryd.underlying2 h3
    obtain ⟨dn, e4, rfl, w4⟩ := DataW.trod_int Tryd.underlying2 h4
    simp only [List.cons.injEq, and_true] at e0 e1 e2 e3 e4
    subst e0 e1 e2 e3 e4
    rcases DataW.trod_slice Tryd.underlying39 h5 with ⟨e5, rfl⟩ | ⟨a, len, cap, elems, rest, n', rfl, e5, rfl, hb, hl, hm, hel, hin, -, -⟩
    · simp only [List.cons.injEq, and_true] at e5
      subst e5
      refine ⟨.mk kd pl nm it dn none 0 [], rfl, ⟨0, 0, fun h => absurd rfl h, trivial⟩, ⟨⟨w0, w1, w2, w3, w4, Nat.zero_le _, Nat.zero_le _⟩, trivial⟩, ?_⟩
      simp only [Ex.bulk, bulks, List.map_cons, List.map_nil, Rows.uptoBulk, Rows.uptoBulkAll, size_bytes]
      omega
    · simp only [List.cons.injEq, and_true] at e5
      subst e5
      rw [Tryd.exprCells] at hin
      by_cases h00 : len = 0
      · subst h00
        refine ⟨.mk kd pl nm it dn (some a) cap [], rfl, ⟨0, 0, fun h => absurd rfl h, trivial⟩, ⟨⟨w0, w1, w2, w3, w4, Nat.zero_le _, hm⟩, trivial⟩, ?_⟩
        simp only [Ex.bulk, bulks, List.map_cons, List.map_nil, Rows.uptoBulk, Rows.uptoBulkAll, size_bytes]
        omega
      · have each : ∀ i (h : i < elems.length), ∃ cs', w.cells? base (a.add (i * 6)) 6 = some cs' ∧ DataW.trod enc Tryd.prog w base sp hd n' 41 cs' = some elems[i] := fun i hi => by
          have := hin i (by omega)
          rw [List.getElem?_eq_getElem hi] at this
          obtain ⟨cs', k1, k2⟩ := Option.bind_eq_some_iff.1 this
          exact ⟨cs', k1, k2⟩
        obtain ⟨b, o, spot⟩ := a
        have hspot : spot = none := by
          obtain ⟨cs', k1, k2⟩ := each 0 (by omega)
          obtain ⟨e, k3, _⟩ := ih n' (by omega) cs' _ k2
          obtain ⟨_, _, k4⟩ := World.cells?_some k1
          have k5 := k4 0 (by omega)
          rw [k3] at k5
          cases e
          simpa [Addr.add] using World.cell?_spot k5
        subst hspot
        obtain ⟨l, i1, i2, i3, i4⟩ := build_exs w b elems o (fun i hi => by
          obtain ⟨cs', k1, k2⟩ := each i hi
          obtain ⟨e, k3, k4, k5, k6⟩ := ih n' (by omega) cs' _ k2
          obtain ⟨_, _, k7⟩ := World.cells?_some k1
          refine ⟨e, fun j hj => ?_, k4, k5, k6⟩
          have k8 := k7 j hj
          rw [addr_add, addr_add, k3] at k8
          exact k8)
        refine ⟨.mk kd pl nm it dn (some ⟨b, o, none⟩) cap l, ?_, ⟨b, o, fun _ => rfl, i2⟩, ⟨⟨w0, w1, w2, w3, w4, by omega, hm⟩, i3⟩, ?_⟩
        · simp only [Ex.cells]
          rw [i1, hel]
        · simp only [Ex.bulk, List.map_cons, List.map_nil, Rows.uptoBulk, Rows.uptoBulkAll, size_bytes]
          omega
end Go.Proofs.YtbahpbinilnfoaaDoor
