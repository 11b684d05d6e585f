/- Expressions as trees that lie in memory: their cells, where their Args lie, how great and how deep they are. No program in sight but the layout of six cells an expression. -/
import Derived.Test.YthbgnpkgglbhjaaGreatDoorLater
import Derived.Below
import Derived.Test.YthbgnpkgglbhjaaGreatDoorRows
import Derived.ProofKit
import Derived.Test.YthbgnpkgglbhjaaGreatDoorProg
import Derived.WalkKit
namespace Go.Proofs.YthbgnpkgglbhjaaGreatDoor
open Go.RowKit

/-- An expression: kind, place, name, number, denominator; where its Args lie, the room there, and its Args. -/
structure Ex where
  kd : Int
  pl : Int
  nm : ByteArray
  it : Int
  dn : Int
  ad : Option Addr
  cap : Nat
  args : List Ex
namespace Ex
def cells : Ex → List Value | .mk kd pl nm it dn a c l => [.int .u8 kd, .int .i64 pl, .string nm, .int .i64 it, .int .i64 dn, .slice a l.length c]
def val (e : Ex) : Value := .agg e.cells.toArray
end Ex
/-- How many expressions. -/
def Ex.size : Ex → Nat
  | .mk _ _ _ _ _ _ _ l => 1 + sizes l
where sizes : List Ex → Nat
  | [] => 0
  | e :: r => e.size + sizes r
open Ex.size
/-- How deep. -/
def Ex.depth : Ex → Nat
  | .mk _ _ _ _ _ _ _ l => deepest l + 1
where deepest : List Ex → Nat
  | [] => 0
  | e :: r => max e.depth (deepest r)
open Ex.depth
/-- The Args lie in the world, one behind the other, six cells each. -/
def Ex.lies (w : World) : Ex → Prop
  | .mk _ _ _ _ _ a _ l => ∃ b o, (l ≠ [] → a = some ⟨b, o, none⟩) ∧ lieAt b o l
where lieAt (b : Nat) : Nat → List Ex → Prop
  | _, [] => True
  | o, e :: r => (∀ j, j < 6 → w.cell? ⟨b, o + j, none⟩ = e.cells[j]?) ∧ e.lies w ∧ lieAt b (o + 6) r
open Ex.lies
theorem sizes_at (l : List Ex) (i : Nat) (h : i < l.length) : sizes (l.take (i + 1)) = sizes (l.take i) + l[i].size := by
  induction l generalizing i with
  | nil => simp at h
  | cons e r ih =>
    cases i with
    | zero => simp [sizes]
    | succ i =>
      have := ih i (by simpa using h)
      simp only [List.take_succ_cons, sizes, List.getElem_cons_succ]
      omega
theorem sizes_take (l : List Ex) (i : Nat) : sizes (l.take i) ≤ sizes l := by
  induction l generalizing i with
  | nil => simp
  | cons e r ih =>
    cases i with
    | zero => simp [sizes]
    | succ i =>
      have := ih i
      simp only [List.take_succ_cons, sizes]
      omega
theorem deepest_at (l : List Ex) (i : Nat) (h : i < l.length) : deepest (l.take (i + 1)) = max (deepest (l.take i)) l[i].depth := by
  induction l generalizing i with
  | nil => simp at h
  | cons e r ih =>
    cases i with
    | zero => simp [deepest]
    | succ i =>
      have := ih i (by simpa using h)
      simp only [List.take_succ_cons, deepest, List.getElem_cons_succ]
      omega
theorem lieAt_get {w : World} {b : Nat} (l : List Ex) (o i : Nat) (h : lieAt w b o l) (hi : i < l.length) : (∀ j, j < 6 → w.cell? ⟨b, o + i * 6 + j, none⟩ = l[i].cells[j]?) ∧ l[i].lies w := by
  induction l generalizing o i with
  | nil => simp at hi
  | cons e r ih =>
    cases i with
    | zero => simpa [lieAt] using ⟨h.1, h.2.1⟩
    | succ i =>
      have := ih (o + 6) i h.2.2 (by simpa using hi)
      refine ⟨fun j hj => ?_, this.2⟩
      have h1 := this.1 j hj
      rw [show o + (i + 1) * 6 + j = o + 6 + i * 6 + j by omega]
      exact h1
theorem size_pos (e : Ex) : 1 ≤ e.size := by
  cases e
  simp [Ex.size]
theorem size_arg {l : List Ex} {i : Nat} (h : i < l.length) : l[i].size ≤ sizes l := by
  have h1 := sizes_at l i h
  have h2 := sizes_take l (i + 1)
  omega
/-- What lies in a world lies in one that has grown. -/
theorem lies_below {w w' : World} (hb : Below w.heap.size w w') : ∀ e : Ex, e.lies w → e.lies w'
  | .mk _ _ _ _ _ _ _ l, ⟨b, o, h1, h2⟩ => ⟨b, o, h1, all b o l h2⟩
where all (b : Nat) : ∀ (o : Nat) (l : List Ex), lieAt w b o l → lieAt w' b o l
  | _, [], _ => trivial
  | o, e :: r, ⟨h1, h2, h3⟩ => by
    have hlt : b < w.heap.size := by
      have h0 := h1 0 (by omega)
      cases e
      exact World.block_lt_of_cell? w ⟨b, o + 0, none⟩ h0
    exact ⟨fun j hj => (hb.cell (p := ⟨b, o + j, none⟩) hlt).trans (h1 j hj), lies_below hb e h2, all b (o + 6) r h3⟩
theorem lieAt_below {w w' : World} (hb : Below w.heap.size w w') (b o : Nat) (l : List Ex) (h : lieAt w b o l) : lieAt w' b o l := lies_below.all hb b o l h
theorem depth_le : ∀ e : Ex, e.depth ≤ e.size
  | .mk _ _ _ _ _ _ _ l => by
    have := all l
    simp only [Ex.depth, Ex.size]
    omega
where all : ∀ l : List Ex, deepest l ≤ sizes l
  | [] => by simp [deepest, sizes]
  | e :: r => by
    have h1 := depth_le e
    have h2 := all r
    simp only [deepest, sizes]
    omega
theorem deepest_le (l : List Ex) : deepest l ≤ sizes l := depth_le.all l
end Go.Proofs.YthbgnpkgglbhjaaGreatDoor
/- An expression that came in, opened: the tree that lies in memory, no greater than what was read. -/
namespace Go.Proofs.YthbgnpkgglbhjaaGreatDoor
open Go.ChangeShapes Go.WideShapes Go.RowKit
open Ex.size Ex.depth Ex.lies
/-- Expressions and letters. -/
def Ex.bulk : Ex → Nat
  | .mk _ _ nm _ _ _ _ l => 1 + nm.size + bulks l
where bulks : List Ex → Nat
  | [] => 0
  | e :: r => e.bulk + bulks r
open Ex.bulk
/-- Each number fits its kind, the Args fit their room. -/
def Ex.good : Ex → Prop
  | .mk kd pl nm it dn _ cap l => ((Lit.int .u8 kd).wf = true ∧ (Lit.int .i64 pl).wf = true ∧ nm.size ≤ maxLen ∧ (Lit.int .i64 it).wf = true ∧ (Lit.int .i64 dn).wf = true ∧ l.length ≤ cap ∧ cap ≤ maxLen) ∧ goods l
where goods : List Ex → Prop
  | [] => True
  | e :: r => e.good ∧ goods r
open Ex.good
theorem goods_get {l : List Ex} {i : Nat} (h : goods l) (hi : i < l.length) : l[i].good := by
  induction l generalizing i with
  | nil => simp at hi
  | cons e r ih =>
    cases i with
    | zero => exact h.1
    | succ i => exact ih h.2 (by simpa using hi)
theorem size_bytes (s : ByteArray) : s.data.toList.length = s.size := by
  rw [Array.length_toList]
  rfl
theorem Tryz.exprCells : Tryz.prog.cellsOf 27 = 6 := by kernel_rfl
theorem addr_add (b o k : Nat) : (⟨b, o, none⟩ : Addr).add k = ⟨b, o + k, none⟩ := by unfold Addr.add; split <;> simp_all
theorem build_exs {H : Type} (w : World) (b : Nat) : ∀ (els : List (DataW H × List MemPlace)) (o : Nat), (∀ i (h : i < els.length), ∃ e : Ex, (∀ j, j < 6 → w.cell? ⟨b, o + i * 6 + j, none⟩ = e.cells[j]?) ∧ e.lies w ∧ e.good ∧ e.bulk ≤ Rows.uptoBulk els[i].1) →
    ∃ l : List Ex, l.length = els.length ∧ lieAt w b o l ∧ goods l ∧ bulks l ≤ Rows.uptoBulkAll (els.map (·.1))
  | [], _, _ => ⟨[], rfl, trivial, trivial, by simp [bulks]⟩
  | y :: r, o, h => by
    obtain ⟨e, h1, h2, h3, h4⟩ := h 0 (by simp)
    obtain ⟨l, i1, i2, i3, i4⟩ := build_exs w b r (o + 6) (fun i hi => by
      obtain ⟨e, k1, k2, k3, k4⟩ := h (i + 1) (by simpa using hi)
      exact ⟨e, fun j hj => by have := k1 j hj; rwa [show o + (i + 1) * 6 + j = o + 6 + i * 6 + j by omega] at this, k2, k3, k4⟩)
    refine ⟨e :: l, by simp [i1], ⟨fun j hj => ?_, h2, i2⟩, ⟨h3, i3⟩, ?_⟩
    · have := h1 j hj
      simpa using this
    · simp only [bulks, List.map_cons, Rows.uptoBulkAll]
      simp only [List.getElem_cons_zero] at h4
      omega
set_option maxRecDepth 100000 in
theorem open_ex {H : Type} {enc : TypeId × Value → H} {w : World} {base : Nat} {sp : Nat → Bool} {hd : Bool} (fuel : Nat) : ∀ (cs : List Value) (x : DataW H × List MemPlace), DataW.trod enc Tryz.prog w base sp hd fuel 27 cs = some x →
    ∃ e : Ex, cs = e.cells ∧ e.lies w ∧ e.good ∧ e.bulk ≤ Rows.uptoBulk x.1 := by
  induction fuel using Nat.strongRecOn with
  | _ fuel ih =>
    intro cs x h
    obtain ⟨xs, n, rfl, rfl, hlen, hxl, hf⟩ := DataW.trod_struct Tryz.underlying27 h
    rw [Tryz.exprCells] at hlen
    have q5 : Tryz.prog.cellsOf 5 = 1 := by kernel_rfl
    have q3 : Tryz.prog.cellsOf 3 = 1 := by kernel_rfl
    have q9 : Tryz.prog.cellsOf 9 = 1 := by kernel_rfl
    have q2 : Tryz.prog.cellsOf 2 = 1 := by kernel_rfl
    have qa : Tryz.prog.cellsOf 25 = 1 := by kernel_rfl
    match cs, hlen with
    | [v0, v1, v2, v3, v4, v5], _ =>
    match xs, hxl with
    | [y0, y1, y2, y3, y4, y5], _ =>
    have h0 : DataW.trod enc Tryz.prog w base sp hd n 5 [v0] = some y0 := by
      have := hf 0 _ rfl
      simpa [q5] using this
    have h1 : DataW.trod enc Tryz.prog w base sp hd n 3 [v1] = some y1 := by
      have := hf 1 _ rfl
      simpa [q3] using this
    have h2 : DataW.trod enc Tryz.prog w base sp hd n 9 [v2] = some y2 := by
      have := hf 2 _ rfl
      simpa [q9] using this
    have h3 : DataW.trod enc Tryz.prog w base sp hd n 2 [v3] = some y3 := by
      have := hf 3 _ rfl
      simpa [q2] using this
    have h4 : DataW.trod enc Tryz.prog w base sp hd n 2 [v4] = some y4 := by
      have := hf 4 _ rfl
      simpa [q2] using this
    have h5 : DataW.trod enc Tryz.prog w base sp hd n 25 [v5] = some y5 := by
      have := hf 5 _ rfl
      simpa [qa] using this
    obtain ⟨kd, e0, rfl, w0⟩ := DataW.trod_int Tryz.underlying5 h0
    obtain ⟨pl, e1, rfl, w1⟩ := DataW.trod_int Tryz.underlying3 h1
    obtain ⟨nm, e2, rfl, w2⟩ := DataW.trod_string Tryz.underlying9 h2
    obtain ⟨it, e3, rfl, w3⟩ := DataW.trod_int Tryz.underlying2 h3
    obtain ⟨dn, e4, rfl, w4⟩ := DataW.trod_int Tryz.underlying2 h4
    simp only [List.cons.injEq, and_true] at e0 e1 e2 e3 e4
    subst e0 e1 e2 e3 e4
    rcases DataW.trod_slice Tryz.underlying25 h5 with ⟨e5, rfl⟩ | ⟨a, len, cap, elems, rest, n', rfl, e5, rfl, hb, hl, hm, hel, hin, -, -⟩
    · simp only [List.cons.injEq, and_true] at e5
      subst e5
      refine ⟨.mk kd pl nm it dn none 0 [], rfl, ⟨0, 0, fun h => absurd rfl h, trivial⟩, ⟨⟨w0, w1, w2, w3, w4, Nat.zero_le _, Nat.zero_le _⟩, trivial⟩, ?_⟩
      simp only [Ex.bulk, bulks, List.map_cons, List.map_nil, Rows.uptoBulk, Rows.uptoBulkAll, size_bytes]
      omega
    · simp only [List.cons.injEq, and_true] at e5
      subst e5
      rw [Tryz.exprCells] at hin
      by_cases h00 : len = 0
      · subst h00
        refine ⟨.mk kd pl nm it dn (some a) cap [], rfl, ⟨0, 0, fun h => absurd rfl h, trivial⟩, ⟨⟨w0, w1, w2, w3, w4, Nat.zero_le _, hm⟩, trivial⟩, ?_⟩
        simp only [Ex.bulk, bulks, List.map_cons, List.map_nil, Rows.uptoBulk, Rows.uptoBulkAll, size_bytes]
        omega
      · have each : ∀ i (h : i < elems.length), ∃ cs', w.cells? base (a.add (i * 6)) 6 = some cs' ∧ DataW.trod enc Tryz.prog w base sp hd n' 27 cs' = some elems[i] := fun i hi => by
          have := hin i (by omega)
          rw [List.getElem?_eq_getElem hi] at this
          obtain ⟨cs', k1, k2⟩ := Option.bind_eq_some_iff.1 this
          exact ⟨cs', k1, k2⟩
        obtain ⟨b, o, spot⟩ := a
        have hspot : spot = none := by
          obtain ⟨cs', k1, k2⟩ := each 0 (by omega)
          obtain ⟨e, k3, _⟩ := ih n' (by omega) cs' _ k2
          obtain ⟨_, _, k4⟩ := World.cells?_some k1
          have k5 := k4 0 (by omega)
          rw [k3] at k5
          cases e
          simpa [Addr.add] using World.cell?_spot k5
        subst hspot
        obtain ⟨l, i1, i2, i3, i4⟩ := build_exs w b elems o (fun i hi => by
          obtain ⟨cs', k1, k2⟩ := each i hi
          obtain ⟨e, k3, k4, k5, k6⟩ := ih n' (by omega) cs' _ k2
          obtain ⟨_, _, k7⟩ := World.cells?_some k1
          refine ⟨e, fun j hj => ?_, k4, k5, k6⟩
          have k8 := k7 j hj
          rw [addr_add, addr_add, k3] at k8
          exact k8)
        refine ⟨.mk kd pl nm it dn (some ⟨b, o, none⟩) cap l, ?_, ⟨b, o, fun _ => rfl, i2⟩, ⟨⟨w0, w1, w2, w3, w4, by omega, hm⟩, i3⟩, ?_⟩
        · simp only [Ex.cells]
          rw [i1, hel]
        · simp only [Ex.bulk, List.map_cons, List.map_nil, Rows.uptoBulk, Rows.uptoBulkAll, size_bytes]
          omega
end Go.Proofs.YthbgnpkgglbhjaaGreatDoor
/- The document's answer of layer 4: Size, Depth. -/
namespace Go.Proofs.YthbgnpkgglbhjaaGreatDoor
open Go.RowKit
open Ex.size Ex.depth Ex.lies
attribute [local go_sem] later_size later_cell later_frozen later_setCell later_drew later_drewN later_tape drewN_setCell drewN_alloc drewN_later later_later lt_more lt_more1 lt_more2 lt_more3 lt_more4 lk0_0_1 lk1_0_1 lk2_0_1 lk0_0_2 lk1_0_2 lk2_0_2 lk0_1_2 lk0_0_3 lk1_0_3 lk2_0_3 lk0_1_3 lk0_2_3 lk0_0_4 lk1_0_4 lk2_0_4 lk0_1_4 lk0_2_4 lk0_3_4 lk0_0_5 lk1_0_5 lk2_0_5 lk0_1_5 lk0_2_5 lk0_3_5 lk0_4_5 lk0_0_6 lk1_0_6 lk2_0_6 lk0_1_6 lk0_2_6 lk0_3_6 lk0_4_6 lk0_5_6 lk0_0_7 lk1_0_7 lk2_0_7 lk0_1_7 lk0_2_7 lk0_3_7 lk0_4_7 lk0_5_7 lk0_6_7
theorem ret_nat {a b : Int} (h : a = b) : Ending.returned (.int .i64 a) = .returned (.int .i64 b) := by rw [h]
set_option maxRecDepth 100000 in
set_option maxHeartbeats 3200000 in
theorem size_calls (m : Nat) : ∀ (e : Ex), e.size ≤ m → e.size ≤ 1048576 → ∀ w, e.lies w → Calls Tryz.prog 42 #[e.val] w fun x w' => x = .returned (.int .i64 e.size) ∧ Below w.heap.size w w' := by
  induction m with
  | zero => intro e h; have := size_pos e; omega
  | succ m ih =>
    rintro ⟨kd, pl, nm, it, dn, a, cap, l⟩ hm hbig w ⟨b, o, hla, hlie⟩
    obtain ⟨n, hn⟩ : ∃ n, n = l.length := ⟨_, rfl⟩
    have HM : Hid (1 + sizes l ≤ m + 1) := hm
    have HG : Hid (1 + sizes l ≤ 1048576) := hbig
    have hnb : n ≤ 1048576 := by
      have : l.length ≤ sizes l := by
        clear hla hlie hn HM HG hm hbig ih
        induction l with
        | nil => simp
        | cons e r ihr => have := size_pos e; simp only [List.length_cons, sizes]; omega
      have := HG.out
      omega
    clear hm hbig
    simp only [Ex.val, Ex.cells, Ex.size, List.toArray]
    rw [← hn]
    have HN : Hid (n = l.length) := hn
    have HLA : Hid _ := hla
    have HLie : Hid _ := hlie
    have HIH : Hid _ := ih
    clear hn hla hlie ih
    go_enter Tryz.func42, Tryz.ntmps42
    go_wp2_with fail
    go_loopw [3, 4] (fun s i wr => ∃ k : Nat, k ≤ n ∧ i = .int .i64 k ∧ s = .int .i64 (1 + sizes (l.take k) : Nat) ∧ wr.cell? ⟨w.heap.size, 5, none⟩ = some (.slice a n cap) ∧ w.heap.size < wr.heap.size ∧ Hid (Below w.heap.size w wr)) (fun _ i _ => n - (intOf i).toNat)
    case atStart => exact ⟨0, by omega, rfl, by simp [sizes], by simp, by simp, (Below.refl _ _).alloc (Nat.le_refl _) _⟩
    case round =>
      obtain ⟨k, hk, rfl, rfl, hbox, hsz, HB⟩ := hrel
      by_cases hlt : k < n
      · have hkl : k < l.length := by rw [← HN.out]; exact hlt
        obtain rfl := HLA.out (by intro h; rw [h] at hkl; simp at hkl)
        obtain ⟨hc, hli⟩ := lieAt_get l o k HLie.out hkl
        have hs1 := sizes_at l k hkl
        have hs2 := sizes_take l (k + 1)
        have hs3 := size_arg hkl
        have HS : Hid (sizes (l.take (k + 1)) = sizes (l.take k) + l[k].size) := hs1
        have hblk : b < w.heap.size := by
          have h0 := hc 0 (by omega)
          cases hx : l[k]
          rw [hx] at h0
          exact World.block_lt_of_cell? w ⟨b, _, none⟩ h0
        have hcr : ∀ j, j < 6 → wr.cell? ⟨b, o + k * 6 + j, none⟩ = l[k].cells[j]? := fun j hj => (HB.out.cell (p := ⟨b, o + k * 6 + j, none⟩) hblk).trans (hc j hj)
        have CC := HIH.out l[k] (by have := HM.out; omega) (by have := HG.out; omega) wr (lies_below HB.out _ hli)
        have hbnd : sizes (l.take k) + l[k].size ≤ 1048576 := by have := HG.out; omega
        generalize l[k] = x at hcr CC HS hbnd
        obtain ⟨kd', pl', nm', it', dn', a', cap', l'⟩ := x
        have c0 : wr.cell? ⟨b, o + k * 6, none⟩ = some (.int .u8 kd') := hcr 0 (by omega)
        have c1 : wr.cell? ⟨b, o + k * 6 + 1, none⟩ = some (.int .i64 pl') := hcr 1 (by omega)
        have c2 : wr.cell? ⟨b, o + k * 6 + 2, none⟩ = some (.string nm') := hcr 2 (by omega)
        have c3 : wr.cell? ⟨b, o + k * 6 + 3, none⟩ = some (.int .i64 it') := hcr 3 (by omega)
        have c4 : wr.cell? ⟨b, o + k * 6 + 4, none⟩ = some (.int .i64 dn') := hcr 4 (by omega)
        have c5 : wr.cell? ⟨b, o + k * 6 + 5, none⟩ = some (.slice a' l'.length cap') := hcr 5 (by omega)
        simp only [Ex.val, Ex.cells, List.toArray] at CC
        generalize Ex.size (.mk kd' pl' nm' it' dn' a' cap' l') = z at CC HS hbnd
        clear hc hcr hli hs1 hs2 hs3 hblk hkl
        go_wp2_with fail
        refine CC.mono ?_
        rintro e w2 ⟨rfl, hb2⟩
        have hbox2 : w2.cell? ⟨w.heap.size, 5, none⟩ = some (.slice (some ⟨b, o, none⟩) n cap) := (hb2.cell (p := ⟨w.heap.size, 5, none⟩) hsz).trans hbox
        have hsz2 : w.heap.size < w2.heap.size := by have := hb2.size; omega
        have HB2 : Hid (Below w.heap.size w w2) := HB.out.trans (hb2.mono (by omega))
        clear CC hb2 c0 c1 c2 c3 c4 c5 hbox hsz HB
        go_wp2_with fail
        go_roundw
        case rel => exact ⟨k + 1, by omega, by go_num, by rw [HS.out]; exact congrArg (Value.int .i64) (by omega), hbox2, hsz2, HB2⟩
        case measure => simp [intOf]; omega
      · obtain rfl : k = n := by omega
        have hst : sizes (l.take k) = sizes l := by rw [HN.out, List.take_length]
        have HST : Hid _ := hst
        clear hst
        go_wp2_with fail
        go_ret
        exact ⟨ret_nat (by rw [HST.out]), HB.out⟩
set_option maxRecDepth 100000 in
set_option maxHeartbeats 3200000 in
theorem depth_calls (m : Nat) : ∀ (e : Ex), e.size ≤ m → e.size ≤ 1048576 → ∀ w, e.lies w → Calls Tryz.prog 43 #[e.val] w fun x w' => x = .returned (.int .i64 e.depth) ∧ Below w.heap.size w w' := by
  induction m with
  | zero => intro e h; have := size_pos e; omega
  | succ m ih =>
    rintro ⟨kd, pl, nm, it, dn, a, cap, l⟩ hm hbig w ⟨b, o, hla, hlie⟩
    obtain ⟨n, hn⟩ : ∃ n, n = l.length := ⟨_, rfl⟩
    have HM : Hid (1 + sizes l ≤ m + 1) := hm
    have HG : Hid (1 + sizes l ≤ 1048576) := hbig
    have hnb : n ≤ 1048576 := by
      have : l.length ≤ sizes l := by
        clear hla hlie hn HM HG hm hbig ih
        induction l with
        | nil => simp
        | cons e r ihr => have := size_pos e; simp only [List.length_cons, sizes]; omega
      have := HG.out
      omega
    clear hm hbig
    simp only [Ex.val, Ex.cells, Ex.depth, List.toArray]
    rw [← hn]
    have HN : Hid (n = l.length) := hn
    have HLA : Hid _ := hla
    have HLie : Hid _ := hlie
    have HIH : Hid _ := ih
    clear hn hla hlie ih
    go_enter Tryz.func43, Tryz.ntmps43
    go_wp2_with fail
    go_loopw [3, 4] (fun s i wr => ∃ k : Nat, k ≤ n ∧ i = .int .i64 k ∧ s = .int .i64 (deepest (l.take k) : Nat) ∧ wr.cell? ⟨w.heap.size, 5, none⟩ = some (.slice a n cap) ∧ w.heap.size < wr.heap.size ∧ Hid (Below w.heap.size w wr)) (fun _ i _ => n - (intOf i).toNat)
    case atStart => exact ⟨0, by omega, rfl, by simp [deepest], by simp, by simp, (Below.refl _ _).alloc (Nat.le_refl _) _⟩
    case round =>
      obtain ⟨k, hk, rfl, rfl, hbox, hsz, HB⟩ := hrel
      by_cases hlt : k < n
      · have hkl : k < l.length := by rw [← HN.out]; exact hlt
        obtain rfl := HLA.out (by intro h; rw [h] at hkl; simp at hkl)
        obtain ⟨hc, hli⟩ := lieAt_get l o k HLie.out hkl
        have hs1 := sizes_at l k hkl
        have hs2 := sizes_take l (k + 1)
        have hs3 := size_arg hkl
        have HS : Hid (deepest (l.take (k + 1)) = max (deepest (l.take k)) l[k].depth) := deepest_at l k hkl
        have hblk : b < w.heap.size := by
          have h0 := hc 0 (by omega)
          cases hx : l[k]
          rw [hx] at h0
          exact World.block_lt_of_cell? w ⟨b, _, none⟩ h0
        have hcr : ∀ j, j < 6 → wr.cell? ⟨b, o + k * 6 + j, none⟩ = l[k].cells[j]? := fun j hj => (HB.out.cell (p := ⟨b, o + k * 6 + j, none⟩) hblk).trans (hc j hj)
        have CC := HIH.out l[k] (by have := HM.out; omega) (by have := HG.out; omega) wr (lies_below HB.out _ hli)
        have hbnd : deepest (l.take k) ≤ 1048576 ∧ l[k].depth ≤ 1048576 := ⟨by have := deepest_le (l.take k); have := sizes_take l k; have := HG.out; omega, by have := depth_le l[k]; have := HG.out; omega⟩
        generalize l[k] = x at hcr CC HS hbnd
        obtain ⟨kd', pl', nm', it', dn', a', cap', l'⟩ := x
        have c0 : wr.cell? ⟨b, o + k * 6, none⟩ = some (.int .u8 kd') := hcr 0 (by omega)
        have c1 : wr.cell? ⟨b, o + k * 6 + 1, none⟩ = some (.int .i64 pl') := hcr 1 (by omega)
        have c2 : wr.cell? ⟨b, o + k * 6 + 2, none⟩ = some (.string nm') := hcr 2 (by omega)
        have c3 : wr.cell? ⟨b, o + k * 6 + 3, none⟩ = some (.int .i64 it') := hcr 3 (by omega)
        have c4 : wr.cell? ⟨b, o + k * 6 + 4, none⟩ = some (.int .i64 dn') := hcr 4 (by omega)
        have c5 : wr.cell? ⟨b, o + k * 6 + 5, none⟩ = some (.slice a' l'.length cap') := hcr 5 (by omega)
        simp only [Ex.val, Ex.cells, List.toArray] at CC
        generalize Ex.depth (.mk kd' pl' nm' it' dn' a' cap' l') = z at CC HS hbnd
        clear hc hcr hli hs1 hs2 hs3 hblk hkl
        go_wp2_with fail
        refine CC.mono ?_
        rintro e w2 ⟨rfl, hb2⟩
        have hbox2 : w2.cell? ⟨w.heap.size, 5, none⟩ = some (.slice (some ⟨b, o, none⟩) n cap) := (hb2.cell (p := ⟨w.heap.size, 5, none⟩) hsz).trans hbox
        have hsz2 : w.heap.size < w2.heap.size := by have := hb2.size; omega
        have HB2 : Hid (Below w.heap.size w w2) := HB.out.trans (hb2.mono (by omega))
        clear CC hb2 c0 c1 c2 c3 c4 c5 hbox hsz HB
        go_wp2_with fail
        go_roundw
        case rel => exact ⟨k + 1, by omega, by go_num, by rw [HS.out]; exact congrArg (Value.int .i64) (by split <;> omega), hbox2, hsz2, HB2⟩
        case measure => simp [intOf]; omega
      · obtain rfl : k = n := by omega
        have hst : deepest (l.take k) = deepest l := by rw [HN.out, List.take_length]
        have HST : Hid _ := hst
        have hdl : deepest (l.take k) ≤ 1048576 := by have := deepest_le l; have := HG.out; omega
        clear hst
        go_wp2_with fail
        go_ret
        exact ⟨ret_nat (by rw [HST.out]; omega), HB.out⟩
end Go.Proofs.YthbgnpkgglbhjaaGreatDoor
/- The statements' own weight of an expression: Heavy. -/
namespace Go.Proofs.YthbgnpkgglbhjaaGreatDoor
open Go.RowKit
open Ex.size Ex.depth Ex.lies Ex.bulk Ex.good
attribute [local go_sem] later_size later_cell later_frozen later_setCell later_drew later_drewN later_tape drewN_setCell drewN_alloc drewN_later later_later lt_more lt_more1 lt_more2 lt_more3 lt_more4 lk0_0_1 lk1_0_1 lk2_0_1 lk0_0_2 lk1_0_2 lk2_0_2 lk0_1_2 lk0_0_3 lk1_0_3 lk2_0_3 lk0_1_3 lk0_2_3 lk0_0_4 lk1_0_4 lk2_0_4 lk0_1_4 lk0_2_4 lk0_3_4 lk0_0_5 lk1_0_5 lk2_0_5 lk0_1_5 lk0_2_5 lk0_3_5 lk0_4_5 lk0_0_6 lk1_0_6 lk2_0_6 lk0_1_6 lk0_2_6 lk0_3_6 lk0_4_6 lk0_5_6 lk0_0_7 lk1_0_7 lk2_0_7 lk0_1_7 lk0_2_7 lk0_3_7 lk0_4_7 lk0_5_7 lk0_6_7
def Ex.weigh : Ex → Nat
  | .mk _ _ nm _ _ _ _ l => weighs (1 + nm.size / 16) l
where weighs : Nat → List Ex → Nat
  | n, [] => n
  | n, e :: r => if n ≤ 8192 then weighs (n + e.weigh) r else n
open Ex.weigh
theorem weighs_ge (l : List Ex) (n : Nat) : n ≤ weighs n l := by
  induction l generalizing n with
  | nil => simp [weighs]
  | cons e r ih =>
    simp only [weighs]
    split
    · have := ih (n + e.weigh)
      omega
    · omega
theorem weigh_le : ∀ e : Ex, e.weigh ≤ e.bulk
  | .mk _ _ nm _ _ _ _ l => by
    have := all l (1 + nm.size / 16)
    simp only [Ex.weigh, Ex.bulk]
    omega
where all : ∀ (l : List Ex) (n : Nat), weighs n l ≤ n + bulks l
  | [], n => by simp [weighs, bulks]
  | e :: r, n => by
    have h1 := weigh_le e
    have h2 := all r (n + e.weigh)
    simp only [weighs, bulks]
    split <;> omega
theorem weighs_le (l : List Ex) (n : Nat) : weighs n l ≤ n + bulks l := weigh_le.all l n
theorem size_bulk : ∀ e : Ex, e.size ≤ e.bulk
  | .mk _ _ _ _ _ _ _ l => by
    have := all l
    simp only [Ex.size, Ex.bulk]
    omega
where all : ∀ l : List Ex, sizes l ≤ bulks l
  | [] => by simp [sizes, bulks]
  | e :: r => by
    have h1 := size_bulk e
    have h2 := all r
    simp only [sizes, bulks]
    omega
theorem sizes_bulk (l : List Ex) : sizes l ≤ bulks l := size_bulk.all l
theorem bulk_arg {l : List Ex} {i : Nat} (h : i < l.length) : l[i].bulk ≤ bulks l := by
  induction l generalizing i with
  | nil => simp at h
  | cons e r ih =>
    cases i with
    | zero => simp [bulks]
    | succ i =>
      have := ih (i := i) (by simpa using h)
      simp only [bulks, List.getElem_cons_succ]
      omega
theorem len_sizes (l : List Ex) : l.length ≤ sizes l := by
  induction l with
  | nil => simp
  | cons e r ih => have := size_pos e; simp only [List.length_cons, sizes]; omega
set_option maxRecDepth 100000 in
set_option maxHeartbeats 3200000 in
theorem weight_calls (m : Nat) : ∀ (e : Ex), e.size ≤ m → e.bulk ≤ 1048576 → ∀ w, e.lies w → Calls Tryz.prog 22 #[e.val] w fun x w' => x = .returned (.int .i64 e.weigh) ∧ Below w.heap.size w w' := by
  induction m with
  | zero => intro e h; have := size_pos e; omega
  | succ m ih =>
    rintro ⟨kd, pl, nm, it, dn, a, cap, l⟩ hm hbig w ⟨b, o, hla, hlie⟩
    obtain ⟨n, hn⟩ : ∃ n, n = l.length := ⟨_, rfl⟩
    have HM : Hid (1 + sizes l ≤ m + 1) := hm
    have HG : Hid (1 + nm.size + bulks l ≤ 1048576) := hbig
    have hnm : nm.size ≤ 1048576 := by have := HG.out; omega
    have hnb : n ≤ 1048576 := by
      have h1 := len_sizes l
      have h2 := sizes_bulk l
      have := HG.out
      omega
    clear hm hbig
    obtain ⟨W, hW⟩ : ∃ W, W = weighs (1 + nm.size / 16) l := ⟨_, rfl⟩
    have hWb : W ≤ 1048576 := by have := weighs_le l (1 + nm.size / 16); have := HG.out; omega
    simp only [Ex.val, Ex.cells, Ex.weigh, List.toArray]
    rw [← hn, ← hW]
    have HW : Hid _ := hW
    have HN : Hid (n = l.length) := hn
    have HLA : Hid _ := hla
    have HLie : Hid _ := hlie
    have HIH : Hid _ := ih
    clear hn hla hlie ih hW
    go_enter Tryz.func22, Tryz.ntmps22
    go_wp2_with fail
    go_loopw [3, 4] (fun s i wr => ∃ k x : Nat, k ≤ n ∧ x ≤ 1048576 ∧ i = .int .i64 k ∧ s = .int .i64 x ∧ Hid (weighs x (l.drop k) = W) ∧ wr.cell? ⟨w.heap.size, 5, none⟩ = some (.slice a n cap) ∧ w.heap.size < wr.heap.size ∧ Hid (Below w.heap.size w wr)) (fun _ i _ => n - (intOf i).toNat)
    case atStart => exact ⟨0, 1 + nm.size / 16, by omega, by omega, rfl, by go_num, by rw [Hid, HW.out]; rfl, by simp, by simp, (Below.refl _ _).alloc (Nat.le_refl _) _⟩
    case round =>
      obtain ⟨k, x, hk, hx, rfl, rfl, HX, hbox, hsz, HB⟩ := hrel
      by_cases hlt : k < n
      · have hkl : k < l.length := by rw [← HN.out]; exact hlt
        have hdrop : l.drop k = l[k] :: l.drop (k + 1) := List.drop_eq_getElem_cons hkl
        have hX := HX.out
        rw [hdrop, weighs] at hX
        by_cases h8 : x ≤ 8192
        · have q8 : decide ((x : Int) ≤ 8192) = true := by simp; omega
          have q88 : decide (x ≤ 8192) = true := by simpa using h8
          rw [if_pos h8] at hX
          have hxw : x + l[k].weigh ≤ 1048576 := by have := weighs_ge (l.drop (k + 1)) (x + l[k].weigh); omega
          have HX2 : Hid _ := hX
          obtain rfl := HLA.out (by intro h; rw [h] at hkl; simp at hkl)
          obtain ⟨hc, hli⟩ := lieAt_get l o k HLie.out hkl
          have hs3 := size_arg hkl
          have hb3 := bulk_arg hkl
          have hblk : b < w.heap.size := by
            have h0 := hc 0 (by omega)
            cases hx : l[k]
            rw [hx] at h0
            exact World.block_lt_of_cell? w ⟨b, _, none⟩ h0
          have hcr : ∀ j, j < 6 → wr.cell? ⟨b, o + k * 6 + j, none⟩ = l[k].cells[j]? := fun j hj => (HB.out.cell (p := ⟨b, o + k * 6 + j, none⟩) hblk).trans (hc j hj)
          have CC := HIH.out l[k] (by have := HM.out; omega) (by have := HG.out; omega) wr (lies_below HB.out _ hli)
          clear hX hdrop HX
          generalize l[k] = y at hcr CC HX2 hxw
          obtain ⟨kd', pl', nm', it', dn', a', cap', l'⟩ := y
          have c0 : wr.cell? ⟨b, o + k * 6, none⟩ = some (.int .u8 kd') := hcr 0 (by omega)
          have c1 : wr.cell? ⟨b, o + k * 6 + 1, none⟩ = some (.int .i64 pl') := hcr 1 (by omega)
          have c2 : wr.cell? ⟨b, o + k * 6 + 2, none⟩ = some (.string nm') := hcr 2 (by omega)
          have c3 : wr.cell? ⟨b, o + k * 6 + 3, none⟩ = some (.int .i64 it') := hcr 3 (by omega)
          have c4 : wr.cell? ⟨b, o + k * 6 + 4, none⟩ = some (.int .i64 dn') := hcr 4 (by omega)
          have c5 : wr.cell? ⟨b, o + k * 6 + 5, none⟩ = some (.slice a' l'.length cap') := hcr 5 (by omega)
          simp only [Ex.val, Ex.cells, List.toArray] at CC
          generalize Ex.weigh (.mk kd' pl' nm' it' dn' a' cap' l') = z at CC HX2 hxw
          clear hc hcr hli hs3 hb3 hblk hkl h8
          go_wp2_with fail
          refine CC.mono ?_
          rintro e w2 ⟨rfl, hb2⟩
          have hbox2 : w2.cell? ⟨w.heap.size, 5, none⟩ = some (.slice (some ⟨b, o, none⟩) n cap) := (hb2.cell (p := ⟨w.heap.size, 5, none⟩) hsz).trans hbox
          have hsz2 : w.heap.size < w2.heap.size := by have := hb2.size; omega
          have HB2 : Hid (Below w.heap.size w w2) := HB.out.trans (hb2.mono (by omega))
          clear CC hb2 c0 c1 c2 c3 c4 c5 hbox hsz HB
          go_wp2_with fail
          go_roundw
          case rel => exact ⟨k + 1, x + z, by omega, by omega, by go_num, by go_num, HX2, hbox2, hsz2, HB2⟩
          case measure => simp [intOf]; omega
        · have q8 : decide ((x : Int) ≤ 8192) = false := by simp; omega
          have q88 : decide (x ≤ 8192) = false := by simpa using h8
          rw [if_neg h8] at hX
          have HX2 : Hid (x = W) := hX
          clear hX hdrop h8 hkl HX
          go_wp2_with fail
          go_ret
          exact ⟨ret_nat (by rw [HX2.out]), HB.out⟩
      · obtain rfl : k = n := by omega
        have HX2 : Hid (x = W) := by
          have := HX.out
          rw [HN.out, List.drop_length] at this
          rw [Hid]
          simpa [weighs] using this
        clear HX
        go_wp2_with fail
        go_ret
        exact ⟨ret_nat (by rw [HX2.out]), HB.out⟩
/-- Is it more than a statement looks at? -/
def heavyB (e : Ex) : Bool := decide (8192 < e.weigh)
set_option maxRecDepth 100000 in
set_option maxHeartbeats 800000 in
theorem heavy_calls (e : Ex) (he : e.bulk ≤ 1048576) (w : World) (hl : e.lies w) : Calls Tryz.prog 8 #[e.val] w fun x w' => x = .returned (.bool (heavyB e)) ∧ Below w.heap.size w w' := by
  have CC := weight_calls e.size e (Nat.le_refl _) he
  have HH : Hid (heavyB e = decide (8192 < e.weigh)) := rfl
  have hwb : e.weigh ≤ 1048576 := by have := weigh_le e; omega
  generalize hz : e.weigh = z at CC HH hwb
  clear hz
  obtain ⟨kd, pl, nm, it, dn, a, cap, l⟩ := e
  have C1 := CC _ (lies_below ((Below.refl w.heap.size w).alloc (Nat.le_refl _) (.cells #[.int .u8 kd, .int .i64 pl, .string nm, .int .i64 it, .int .i64 dn, .slice a l.length cap] 27)) _ hl)
  simp only [Ex.val, Ex.cells, List.toArray] at C1 ⊢
  clear CC hl
  go_enter Tryz.func8, Tryz.ntmps8
  go_wp2_with fail
  refine C1.mono ?_
  rintro x w2 ⟨rfl, hb⟩
  have HB : Hid (Below w.heap.size w w2) := ((Below.refl w.heap.size w).alloc (Nat.le_refl _) _).trans (hb.mono (by simp))
  clear hb C1
  go_wp2
  go_ret
  refine ⟨?_, HB.out⟩
  rw [HH.out]
  try (refine congrArg (fun b => Ending.returned (.bool b)) ?_)
  try (rw [Bool.eq_iff_iff]; simp; omega)
end Go.Proofs.YthbgnpkgglbhjaaGreatDoor
/- Programs as they lie in memory: params, equations, nodes. -/
namespace Go.Proofs.YthbgnpkgglbhjaaGreatDoor
open Go.RowKit
open Ex.size Ex.depth Ex.lies Ex.bulk Ex.good
/-- A param. -/
structure Pm where
  nm : ByteArray
  ty : Int
  pl : Int
  rt : Bool
  pd : Int
  st : Int
  du : Int
def Pm.cells (p : Pm) : List Value := [.string p.nm, .int .u8 p.ty, .int .i64 p.pl, .bool p.rt, .int .i64 p.pd, .int .i64 p.st, .int .i64 p.du]
def Pm.val (p : Pm) : Value := .agg p.cells.toArray
/-- An equation: where its names lie, the room there, the names; its place; its expression. -/
structure Eqn where
  na : Option Addr
  nc : Nat
  ns : List ByteArray
  pq : Int
  e : Ex
def Eqn.cells (q : Eqn) : List Value := .slice q.na q.ns.length q.nc :: .int .i64 q.pq :: q.e.cells
def Eqn.val (q : Eqn) : Value := .agg q.cells.toArray
/-- A node. -/
structure Nd where
  fl : Bool
  nm : ByteArray
  pl : Int
  ia : Option Addr
  ic : Nat
  ins : List Pm
  oa : Option Addr
  oc : Nat
  outs : List Pm
  va : Option Addr
  vc : Nat
  vars : List Pm
  qa : Option Addr
  qc : Nat
  eqs : List Eqn
def Nd.cells (n : Nd) : List Value := [.bool n.fl, .string n.nm, .int .i64 n.pl, .slice n.ia n.ins.length n.ic, .slice n.oa n.outs.length n.oc, .slice n.va n.vars.length n.vc, .slice n.qa n.eqs.length n.qc]
def Nd.val (n : Nd) : Value := .agg n.cells.toArray
/-- A row of things, each so many cells, lies at a place. -/
def rowAt {α : Type} (f : α → List Value) (z : Nat) (w : World) (b o : Nat) (l : List α) : Prop := ∀ i (h : i < l.length) j, j < z → w.cell? ⟨b, o + i * z + j, none⟩ = (f l[i])[j]?
/-- A slice of such lies in the world. -/
def rowIn {α : Type} (f : α → List Value) (z : Nat) (w : World) (a : Option Addr) (l : List α) : Prop := l ≠ [] → ∃ b o, a = some ⟨b, o, none⟩ ∧ b < w.heap.size ∧ rowAt f z w b o l
theorem rowIn_below {α : Type} {f : α → List Value} {z : Nat} {w w' : World} {a : Option Addr} {l : List α} (h : rowIn f z w a l) (hb : Below w.heap.size w w') : rowIn f z w' a l := fun hne => by
  obtain ⟨b, o, rfl, hlt, hr⟩ := h hne
  exact ⟨b, o, rfl, Nat.lt_of_lt_of_le hlt hb.size, fun i hi j hj => (hb.cell (p := ⟨b, _, none⟩) hlt).trans (hr i hi j hj)⟩
def textOf (s : ByteArray) : List Value := [.string s]
def Eqn.lies (w : World) (q : Eqn) : Prop := rowIn textOf 1 w q.na q.ns ∧ q.e.lies w
def Nd.lies (w : World) (n : Nd) : Prop := rowIn Pm.cells 7 w n.ia n.ins ∧ rowIn Pm.cells 7 w n.oa n.outs ∧ rowIn Pm.cells 7 w n.va n.vars ∧ rowIn Eqn.cells 8 w n.qa n.eqs ∧ ∀ q ∈ n.eqs, q.lies w
theorem Eqn.lies_below {w w' : World} {q : Eqn} (h : q.lies w) (hb : Below w.heap.size w w') : q.lies w' := ⟨rowIn_below h.1 hb, Go.Proofs.YthbgnpkgglbhjaaGreatDoor.lies_below hb _ h.2⟩
theorem Nd.lies_below {w w' : World} {n : Nd} (h : n.lies w) (hb : Below w.heap.size w w') : n.lies w' := ⟨rowIn_below h.1 hb, rowIn_below h.2.1 hb, rowIn_below h.2.2.1 hb, rowIn_below h.2.2.2.1 hb, fun q hq => Eqn.lies_below (h.2.2.2.2 q hq) hb⟩
end Go.Proofs.YthbgnpkgglbhjaaGreatDoor
