/- The statements' own look at some answers that the document fixes: alive. -/
import Derived.Test.YthbjagmlcemefaaDoorTreeSome
import Derived.Deep.RegionHeld3
namespace Go.Proofs.YthbjagmlcemefaaDoor
open Go.RowKit
open Ex.size Ex.depth Ex.lies Ex.bulk Ex.good Ex.same Ex.shape Ex.calls
attribute [local go_sem] later_size later_cell later_frozen later_setCell later_drew later_drewN later_tape drewN_setCell drewN_alloc drewN_later later_later lt_more lt_more1 lt_more2 lt_more3 lt_more4 lk0_0_1 lk1_0_1 lk2_0_1 lk0_0_2 lk1_0_2 lk2_0_2 lk0_1_2 lk0_0_3 lk1_0_3 lk2_0_3 lk0_1_3 lk0_2_3 lk0_0_4 lk1_0_4 lk2_0_4 lk0_1_4 lk0_2_4 lk0_3_4 lk0_0_5 lk1_0_5 lk2_0_5 lk0_1_5 lk0_2_5 lk0_3_5 lk0_4_5 lk0_0_6 lk1_0_6 lk2_0_6 lk0_1_6 lk0_2_6 lk0_3_6 lk0_4_6 lk0_5_6 lk0_0_7 lk1_0_7 lk2_0_7 lk0_1_7 lk0_2_7 lk0_3_7 lk0_4_7 lk0_5_7 lk0_6_7
def fiveEx : Ex := ⟨2, 0, ⟨#[]⟩, 5, 0, none, 0, []⟩
def negEx (k : Nat) : Ex := ⟨5, 0, ⟨#[]⟩, 0, 0, some ⟨k, 0, none⟩, 1, [fiveEx]⟩
def addEx (k q : Nat) : Ex := ⟨7, 0, ⟨#[]⟩, 0, 0, some ⟨q, 0, none⟩, 1, [someEx k]⟩
def aliveEq (k q : Nat) : Eqn := ⟨some ⟨q, 0, none⟩, 1, [⟨#[120]⟩], 0, addEx k (q + 1)⟩
def aliveNd (k q : Nat) : Nd := ⟨false, ⟨#[110]⟩, 0, none, 0, [], none, 0, [], none, 0, [], some ⟨q + 2, 0, none⟩, 1, [aliveEq k q]⟩
theorem neg_good (k : Nat) : (negEx k).good :=
  ⟨⟨by decide, by decide, by decide, by decide, by decide, Nat.le_refl 1, by decide⟩, ⟨⟨by decide, by decide, by decide, by decide, by decide, by decide, by decide⟩, trivial⟩, trivial⟩
theorem neg_lit (k : Nat) : (negEx k).lit = (-5, 1, true) := by
  have h : partOk (negEx k) = true := by simp [partOk, negEx, argsOkB, argsOf, numB, intOkB, denOkB, nameOkB, ByteArray.toList_eq]
  have h5 : partOk fiveEx = true := by simp [partOk, fiveEx, argsOkB, argsOf, numB, intOkB, denOkB, nameOkB, ByteArray.toList_eq]
  have := (lit_neg (x := fiveEx) (r := []) h rfl rfl).2
  rw [this, if_pos ⟨rfl, h5⟩]
  rfl
theorem add_good (k q : Nat) : (addEx k q).good := ⟨⟨by decide, by decide, by decide, by decide, by decide, Nat.le_refl 1, by decide⟩, some_good k, trivial⟩
theorem alive_may (k q : Nat) : mayOf [aliveNd k q] = 40 := by
  have h : ndB (aliveNd k q) = false := by
    have h1 : (addEx k (q + 1)).shape = false := by
      rw [addEx, Ex.shape]
      have : argsOkB 7 [someEx k].length = false := by show argsOkB 7 1 = false; decide
      rw [this]
      rfl
    simp [ndB, aliveNd, aliveEq, eqB, h1]
  have h2 : fewB (aliveNd k q) = true := by simp [fewB, aliveNd]
  rw [mayOf]
  simp [h, h2]
theorem alive_goods (k q : Nat) : Goods [aliveNd k q] := by
  refine ⟨fun n hn => ?_, by simp, by have : ndSizes [aliveNd k q] = 6 := rfl; omega⟩
  rw [List.mem_singleton] at hn
  subst hn
  refine ⟨by show 1 ≤ 1048576; decide, by simp [aliveNd], by simp [aliveNd], by simp [aliveNd], by simp [aliveNd], fun p hp => (by cases hp), fun p hp => (by cases hp), fun p hp => (by cases hp), fun e he => ?_⟩
  have : e = aliveEq k q := by simpa [aliveNd] using he
  subst this
  exact ⟨fun s hs => by have : s = ⟨#[120]⟩ := (by simpa [aliveEq] using hs); subst this; decide, by simp [aliveEq], add_good _ _, by have : (addEx k (q + 1)).bulk = 9 := rfl; show (addEx k (q + 1)).bulk ≤ 1048576; omega⟩
theorem alive_lie {k q : Nat} {w : World} (hs : (someEx k).lies w) (h0 : w.cell? ⟨q, 0, none⟩ = some (.string ⟨#[120]⟩)) (h1 : ∀ j, j < 6 → w.cell? ⟨q + 1, j, none⟩ = (someEx k).cells[j]?) (h2 : ∀ j, j < 8 → w.cell? ⟨q + 2, j, none⟩ = (aliveEq k q).cells[j]?) (h3 : ∀ j, j < 7 → w.cell? ⟨q + 3, j, none⟩ = (aliveNd k q).cells[j]?) : Lie w (some ⟨q + 3, 0, none⟩) [aliveNd k q] := by
  have l0 := World.block_lt_of_cell? w ⟨q, 0, none⟩ h0
  have l2 : q + 2 < w.heap.size := World.block_lt_of_cell? w ⟨q + 2, 0, none⟩ (h2 0 (by omega))
  have l3 : q + 3 < w.heap.size := World.block_lt_of_cell? w ⟨q + 3, 0, none⟩ (h3 0 (by omega))
  refine ⟨fun _ => ⟨q + 3, 0, rfl, l3, fun i hi j hj => ?_⟩, fun n hn => ?_⟩
  · obtain rfl : i = 0 := by simpa using hi
    simpa using h3 j hj
  · rw [List.mem_singleton] at hn
    subst hn
    refine ⟨fun h => absurd rfl h, fun h => absurd rfl h, fun h => absurd rfl h, fun _ => ⟨q + 2, 0, rfl, l2, fun i hi j hj => ?_⟩, fun e he => ?_⟩
    · obtain rfl : i = 0 := by simpa [aliveNd] using hi
      simpa [aliveNd] using h2 j hj
    · have : e = aliveEq k q := by simpa [aliveNd] using he
      subst this
      refine ⟨fun _ => ⟨q, 0, rfl, l0, fun i hi j hj => ?_⟩, ⟨q + 1, 0, fun _ => rfl, fun j hj => ?_, hs, trivial⟩⟩
      · obtain rfl : i = 0 := by simpa [aliveEq] using hi
        obtain rfl : j = 0 := by omega
        simpa [aliveEq, textOf] using h0
      · simpa using h1 j hj
/-- The cells that alive looks at again. -/
def aliveCells (b1 k g q : Nat) (w : World) : Prop :=
  (∀ j, j < 6 → w.cell? ⟨b1, j, none⟩ = (someEx k).cells[j]?) ∧ (∀ j, j < 6 → w.cell? ⟨k + 2, j, none⟩ = xEx.cells[j]?) ∧ w.cell? ⟨g, 0, none⟩ = some (.string ⟨#[102]⟩) ∧ w.cell? ⟨q + 4, 0, none⟩ = some (.slice (some ⟨q + 3, 0, none⟩) 1 1)
theorem alive_kept {b1 k g q : Nat} {w w' : World} (h : aliveCells b1 k g q w) (hb : Below w.heap.size w w') : aliveCells b1 k g q w' := by
  obtain ⟨h1, h2, h3, h4⟩ := h
  have l1 : b1 < w.heap.size := World.block_lt_of_cell? w ⟨b1, 0, none⟩ (h1 0 (by omega))
  have l2 : k + 2 < w.heap.size := World.block_lt_of_cell? w ⟨k + 2, 0, none⟩ (h2 0 (by omega))
  have l3 := World.block_lt_of_cell? w ⟨g, 0, none⟩ h3
  have l4 := World.block_lt_of_cell? w ⟨q + 4, 0, none⟩ h4
  exact ⟨fun j hj => (hb.cell (p := ⟨b1, j, none⟩) l1).trans (h1 j hj), fun j hj => (hb.cell (p := ⟨k + 2, j, none⟩) l2).trans (h2 j hj), (hb.cell (p := ⟨g, 0, none⟩) l3).trans h3, (hb.cell (p := ⟨q + 4, 0, none⟩) l4).trans h4⟩
/-- What holds of the world from then on. -/
def AliveS (N : Nat) (W : World) (b1 k g q : Nat) (w' : World) : Prop := Hid (Below N W w') ∧ w'.cell? ⟨b1, 0, none⟩ = some (.int .u8 7) ∧ w'.cell? ⟨b1, 1, none⟩ = some (.int .i64 0) ∧ w'.cell? ⟨b1, 2, none⟩ = some (.string ⟨#[]⟩) ∧ w'.cell? ⟨b1, 3, none⟩ = some (.int .i64 0) ∧ w'.cell? ⟨b1, 4, none⟩ = some (.int .i64 0) ∧ w'.cell? ⟨b1, 5, none⟩ = some (.slice (some ⟨k + 2, 0, none⟩) 2 2) ∧ w'.cell? ⟨k + 2, 0, none⟩ = some (.int .u8 1) ∧ w'.cell? ⟨k + 2, 1, none⟩ = some (.int .i64 0) ∧ w'.cell? ⟨k + 2, 2, none⟩ = some (.string ⟨#[120]⟩) ∧ w'.cell? ⟨k + 2, 3, none⟩ = some (.int .i64 0) ∧ w'.cell? ⟨k + 2, 4, none⟩ = some (.int .i64 0) ∧ w'.cell? ⟨k + 2, 5, none⟩ = some (.slice none 0 0) ∧ w'.cell? ⟨g, 0, none⟩ = some (.string ⟨#[102]⟩) ∧ w'.cell? ⟨q + 1 + 1 + 1 + 1, 0, none⟩ = some (.slice (some ⟨q + 1 + 1 + 1, 0, none⟩) 1 1)
theorem alive_S {N : Nat} {W w' : World} {b1 k g q : Nat} (hN : N = W.heap.size) (h : aliveCells b1 k g q W) (hb : Below N W w') : AliveS N W b1 k g q w' := by
  have h' := alive_kept h (hN ▸ hb)
  obtain ⟨h1, h2, h3, h4⟩ := h'
  exact ⟨hb, h1 0 (by omega), h1 1 (by omega), h1 2 (by omega), h1 3 (by omega), h1 4 (by omega), h1 5 (by omega), h2 0 (by omega), h2 1 (by omega), h2 2 (by omega), h2 3 (by omega), h2 4 (by omega), h2 5 (by omega), h3, h4⟩
structure MayIs (N : Nat) (W : World) (b1 k g q : Nat) (v : Value) (i : Int) : Prop where
  out : ∀ w', Hid (Below N W w') → Calls Tryd.prog 10 #[v] w' fun x w'' => x = .returned (.int .i64 i) ∧ AliveS N W b1 k g q w''
structure SameIs (N : Nat) (W : World) (b1 k g q : Nat) (v u : Value) (r : Bool) : Prop where
  out : ∀ w', Hid (Below N W w') → Calls Tryd.prog 16 #[v, u] w' fun x w'' => x = .returned (.bool r) ∧ AliveS N W b1 k g q w''
structure SameNow (N : Nat) (W : World) (b1 k g q : Nat) (w' : World) (v u : Value) (r : Bool) : Prop where
  out : Hid (Below N W w') → Calls Tryd.prog 16 #[v, u] w' fun x w'' => x = .returned (.bool r) ∧ AliveS N W b1 k g q w''
set_option maxRecDepth 100000 in
set_option maxHeartbeats 12800000 in
theorem alive_calls (w : World) (ht : HasTab w) : Calls Tryd.prog 11 #[] w fun x w' => x = .returned (.bool true) ∧ Below w.heap.size w w' := by
  obtain ⟨k, hk⟩ : ∃ k, k = w.heap.size := ⟨_, rfl⟩
  have C0 := some_made w
  rw [← hk] at C0
  have hv : (someEx k).val = .agg #[.int .u8 7, .int .i64 0, .string ⟨#[]⟩, .int .i64 0, .int .i64 0, .slice (some ⟨k + 2, 0, none⟩) 2 2] := rfl
  rw [hv] at C0
  have HT : Hid (HasTab w) := ht
  have HK : Hid (k = w.heap.size) := hk
  clear ht hk
  go_enter Tryd.func11, Tryd.ntmps11
  go_wp2_with fail
  refine C0.mono ?_
  rintro x w1 ⟨rfl, hl1, hb1⟩
  have hbA : Below w1.heap.size w1 (w1.alloc (.cells #[.int .u8 7, .int .i64 0, .string ⟨#[]⟩, .int .i64 0, .int .i64 0, .slice (some ⟨k + 2, 0, none⟩) 2 2] 33)) := (Below.refl _ _).alloc (Nat.le_refl _) _
  have C1 := calls_prog (someEx k) (by rw [some_bulk]; decide) (some_good k) _ (lies_below hbA _ hl1)
  rw [hv, some_calls] at C1
  have HL1 : Hid ((someEx k).lies w1) := hl1
  have HB1 : Hid (Below w.heap.size w w1) := by have := hb1; rw [HK.out] at this; exact this
  clear C0 hl1 hb1 hbA
  go_wp2_with fail
  refine C1.mono ?_
  rintro x w2 ⟨v, rfl, hm, hb2⟩
  obtain ⟨g, cp, rfl, -, hg⟩ := hm.own.form (by decide)
  have hgc : w2.cell? ⟨g, 0, none⟩ = some (.string ⟨#[102]⟩) := by
    rw [hm.own.cellAt 0 (by decide)]
    rfl
  have HGC : Hid _ := hgc
  have HBX : Hid (∀ j, j < 6 → w2.cell? ⟨w1.heap.size, j, none⟩ = (someEx k).cells[j]?) := fun j hj => by
    have hlt : w1.heap.size < (w1.alloc (.cells #[.int .u8 7, .int .i64 0, .string ⟨#[]⟩, .int .i64 0, .int .i64 0, .slice (some ⟨k + 2, 0, none⟩) 2 2] 33)).heap.size := by simp
    rw [hb2.cell (p := ⟨w1.heap.size, j, none⟩) hlt, World.cell?_alloc_at _ _ _ _ rfl]
    have : j = 0 ∨ j = 1 ∨ j = 2 ∨ j = 3 ∨ j = 4 ∨ j = 5 := by omega
    rcases this with rfl | rfl | rfl | rfl | rfl | rfl <;> rfl
  have HB2 : Hid (Below w1.heap.size w1 w2) := ((Below.refl _ _).alloc (Nat.le_refl _) _).trans (hb2.mono (by simp))
  clear C1 hm hb2 hgc hg
  have hbL : Below w2.heap.size w2 (w2.alloc (.cells fiveEx.cells.toArray 33)) := (Below.refl _ _).alloc (Nat.le_refl _) _
  have hnl : (negEx w2.heap.size).lies (w2.alloc (.cells fiveEx.cells.toArray 33)) := ⟨w2.heap.size, 0, fun _ => rfl, by
    refine cells_at rfl ?_
    exact six rfl rfl rfl rfl rfl rfl, leaf_lies _ _ _ _ _ _, trivial⟩
  have hBw2 : Below w.heap.size w w2 := HB1.out.trans (HB2.out.mono HB1.out.size)
  have C2 := literal_prog (negEx w2.heap.size) (by have : (negEx w2.heap.size).bulk = 2 := rfl; omega) (neg_good _) _ hnl (HT.out.below (hBw2.trans (hbL.mono hBw2.size)))
  rw [neg_lit] at C2
  simp only [negEx, fiveEx, Ex.val, Ex.cells, List.toArray, List.length_cons, List.length_nil, Nat.zero_add] at C2
  have HBW2 : Hid _ := hBw2
  clear hbL hnl hBw2
  go_wp2_with fail
  refine C2.mono ?_
  rintro x w3 ⟨rfl, hb3⟩
  have HB3 : Hid (Below w2.heap.size w2 w3) := ((Below.refl _ _).alloc (Nat.le_refl _) _).trans (hb3.mono (by simp))
  have HBW3 : Hid (Below w.heap.size w w3) := HBW2.out.trans (HB3.out.mono HBW2.out.size)
  have HB13 : Hid (Below w1.heap.size w1 w3) := HB2.out.trans (HB3.out.mono HB2.out.size)
  have hBX3 : ∀ j, j < 6 → w3.cell? ⟨w1.heap.size, j, none⟩ = (someEx k).cells[j]? := fun j hj => by
    have hlt : w1.heap.size < w2.heap.size := World.block_lt_of_cell? w2 ⟨w1.heap.size, 0, none⟩ (HBX.out 0 (by omega))
    rw [HB3.out.cell (p := ⟨w1.heap.size, j, none⟩) hlt]
    exact HBX.out j hj
  have hg3 : w3.cell? ⟨g, 0, none⟩ = some (.string ⟨#[102]⟩) := (HB3.out.cell (p := ⟨g, 0, none⟩) (World.block_lt_of_cell? w2 ⟨g, 0, none⟩ HGC.out)).trans HGC.out
  have hl3 : (someEx k).lies w3 := lies_below HB13.out _ HL1.out
  have hx3 : ∀ j, j < 6 → w3.cell? ⟨k + 2, j, none⟩ = xEx.cells[j]? := fun j hj => by
    obtain ⟨b, o, h1, h2, -⟩ := hl3
    have h3 := h1 (by simp)
    simp only [Option.some.injEq, Addr.mk.injEq, and_true] at h3
    obtain ⟨rfl, rfl⟩ := h3
    have := h2 j hj
    rwa [Nat.zero_add] at this
  have m0 : w3.cell? ⟨w1.heap.size, 0, none⟩ = some (.int .u8 7) := hBX3 0 (by omega)
  have m1 : w3.cell? ⟨w1.heap.size, 1, none⟩ = some (.int .i64 0) := hBX3 1 (by omega)
  have m2 : w3.cell? ⟨w1.heap.size, 2, none⟩ = some (.string ⟨#[]⟩) := hBX3 2 (by omega)
  have m3 : w3.cell? ⟨w1.heap.size, 3, none⟩ = some (.int .i64 0) := hBX3 3 (by omega)
  have m4 : w3.cell? ⟨w1.heap.size, 4, none⟩ = some (.int .i64 0) := hBX3 4 (by omega)
  have m5 : w3.cell? ⟨w1.heap.size, 5, none⟩ = some (.slice (some ⟨k + 2, 0, none⟩) 2 2) := hBX3 5 (by omega)
  have hb1lt : w1.heap.size < w3.heap.size := World.block_lt_of_cell? w3 ⟨w1.heap.size, 0, none⟩ m0
  obtain ⟨W, hW⟩ : ∃ W : World, W = ((((w3.alloc (.cells #[.string ⟨#[120]⟩] 9)).alloc (.cells #[.int .u8 7, .int .i64 0, .string ⟨#[]⟩, .int .i64 0, .int .i64 0, .slice (some ⟨k + 2, 0, none⟩) 2 2] 33)).alloc (.cells #[.slice (some ⟨w3.heap.size, 0, none⟩) 1 1, .int .i64 0, .int .u8 7, .int .i64 0, .string ⟨#[]⟩, .int .i64 0, .int .i64 0, .slice (some ⟨w3.heap.size + 1, 0, none⟩) 1 1] 36)).alloc (.cells #[.bool false, .string ⟨#[110]⟩, .int .i64 0, .slice none 0 0, .slice none 0 0, .slice none 0 0, .slice (some ⟨w3.heap.size + 2, 0, none⟩) 1 1] 29)).alloc (.cells #[.slice (some ⟨w3.heap.size + 3, 0, none⟩) 1 1] 25) := ⟨_, rfl⟩
  have hWs : W.heap.size = w3.heap.size + 5 := by rw [hW]; simp
  have hbW : Below w3.heap.size w3 W := by
    rw [hW]
    exact (((((Below.refl _ _).alloc (Nat.le_refl _) _).alloc (by simp) _).alloc (by simp; omega) _).alloc (by simp; omega) _).alloc (by simp; omega) _
  have hAl : aliveCells w1.heap.size k g w3.heap.size W := by
    refine ⟨fun j hj => (hbW.cell (p := ⟨w1.heap.size, j, none⟩) hb1lt).trans (hBX3 j hj), fun j hj => (hbW.cell (p := ⟨k + 2, j, none⟩) (World.block_lt_of_cell? w3 ⟨k + 2, 0, none⟩ (hx3 0 (by omega)))).trans (hx3 j hj), (hbW.cell (p := ⟨g, 0, none⟩) (World.block_lt_of_cell? w3 ⟨g, 0, none⟩ hg3)).trans hg3, ?_⟩
    rw [hW, World.cell?_alloc_at _ _ _ _ (by simp <;> omega)]
    rfl
  have hLie : Lie W (some ⟨w3.heap.size + 3, 0, none⟩) [aliveNd k w3.heap.size] := by
    refine alive_lie (lies_below hbW _ hl3) ?_ ?_ ?_ ?_
    · rw [hW, World.cell?_alloc_past _ _ _ (by simp <;> omega), World.cell?_alloc_past _ _ _ (by simp <;> omega), World.cell?_alloc_past _ _ _ (by simp <;> omega), World.cell?_alloc_past _ _ _ (by simp <;> omega), World.cell?_alloc_at _ _ _ _ rfl]
      rfl
    · intro j hj
      rw [hW, World.cell?_alloc_past _ _ _ (by simp <;> omega), World.cell?_alloc_past _ _ _ (by simp <;> omega), World.cell?_alloc_past _ _ _ (by simp <;> omega), World.cell?_alloc_at _ _ _ _ (by simp <;> omega)]
      have : j = 0 ∨ j = 1 ∨ j = 2 ∨ j = 3 ∨ j = 4 ∨ j = 5 := by omega
      rcases this with rfl | rfl | rfl | rfl | rfl | rfl <;> rfl
    · intro j hj
      rw [hW, World.cell?_alloc_past _ _ _ (by simp <;> omega), World.cell?_alloc_past _ _ _ (by simp <;> omega), World.cell?_alloc_at _ _ _ _ (by simp <;> omega)]
      have : j = 0 ∨ j = 1 ∨ j = 2 ∨ j = 3 ∨ j = 4 ∨ j = 5 ∨ j = 6 ∨ j = 7 := by omega
      rcases this with rfl | rfl | rfl | rfl | rfl | rfl | rfl | rfl <;> rfl
    · intro j hj
      rw [hW, World.cell?_alloc_past _ _ _ (by simp <;> omega), World.cell?_alloc_at _ _ _ _ (by simp <;> omega)]
      have : j = 0 ∨ j = 1 ∨ j = 2 ∨ j = 3 ∨ j = 4 ∨ j = 5 ∨ j = 6 := by omega
      rcases this with rfl | rfl | rfl | rfl | rfl | rfl | rfl <;> rfl
  obtain ⟨N, hN⟩ : ∃ N, N = W.heap.size := ⟨_, rfl⟩
  have hTW : HasTab W := HT.out.below (HBW3.out.trans (hbW.mono HBW3.out.size))
  have hlW : (someEx k).lies W := lies_below hbW _ hl3
  have bl : ∀ {w' w'' : World}, Hid (Below N W w') → Below w'.heap.size w' w'' → Below N W w'' := fun h1 h2 => h1.out.trans (h2.mono (by rw [hN]; exact h1.out.size))
  have up : ∀ {w' : World}, Hid (Below N W w') → Below W.heap.size W w' := fun h => by have := h.out; rwa [hN] at this
  have K13 : ∀ w', Hid (Below N W w') → Calls Tryd.prog 22 #[.agg #[.int .u8 7, .int .i64 0, .string ⟨#[]⟩, .int .i64 0, .int .i64 0, .slice (some ⟨k + 2, 0, none⟩) 2 2]] w' fun x w'' => x = .returned (.int .i64 5) ∧ AliveS N W w1.heap.size k g w3.heap.size w'' := fun w' h => by
    have := size_prog (someEx k) (by rw [some_bulk]; decide) (some_good k) w' (lies_below (up h) _ hlW)
    exact this.mono fun x w'' ⟨h1, h2⟩ => ⟨h1, alive_S hN hAl (bl h h2)⟩
  have K15 : ∀ w', Hid (Below N W w') → Calls Tryd.prog 23 #[.agg #[.int .u8 7, .int .i64 0, .string ⟨#[]⟩, .int .i64 0, .int .i64 0, .slice (some ⟨k + 2, 0, none⟩) 2 2]] w' fun x w'' => x = .returned (.int .i64 3) ∧ AliveS N W w1.heap.size k g w3.heap.size w'' := fun w' h => by
    have := depth_prog (someEx k) (by rw [some_bulk]; decide) (some_good k) w' (lies_below (up h) _ hlW)
    exact this.mono fun x w'' ⟨h1, h2⟩ => ⟨h1, alive_S hN hAl (bl h h2)⟩
  have K21 : ∀ w', Hid (Below N W w') → Calls Tryd.prog 10 #[.agg #[.slice (some ⟨w3.heap.size + 1 + 1 + 1, 0, none⟩) 1 1]] w' fun x w'' => x = .returned (.int .i64 40) ∧ AliveS N W w1.heap.size k g w3.heap.size w'' := fun w' h => by
    have := may_prog [aliveNd k w3.heap.size] (some ⟨w3.heap.size + 3, 0, none⟩) 1 (alive_goods k w3.heap.size) w' (hLie.below (up h)) (hTW.below (up h))
    rw [alive_may] at this
    exact this.mono fun x w'' ⟨h1, h2⟩ => ⟨h1, alive_S hN hAl (bl h h2)⟩
  have K21e : ∀ w', Hid (Below N W w') → Calls Tryd.prog 10 #[.agg #[.slice none 0 0]] w' fun x w'' => x = .returned (.int .i64 0) ∧ AliveS N W w1.heap.size k g w3.heap.size w'' := fun w' h => by
    have := may_prog [] none 0 ⟨fun n hn => (by cases hn), by simp, by simp [ndSizes]⟩ w' ⟨fun h => absurd rfl h, fun n hn => (by cases hn)⟩ (hTW.below (up h))
    have e : mayOf [] = 0 := by simp [mayOf, ndDeep, ndSizes]
    rw [e] at this
    exact this.mono fun x w'' ⟨h1, h2⟩ => ⟨h1, alive_S hN hAl (bl h h2)⟩
  have K34 : ∀ w', Hid (Below N W w') → Calls Tryd.prog 35 #[] w' fun x w'' => ∃ k', x = .returned (.agg #[.int .u8 7, .int .i64 0, .string ⟨#[]⟩, .int .i64 0, .int .i64 0, .slice (some ⟨k' + 2, 0, none⟩) 2 2]) ∧ Hid ((someEx k').lies w'') ∧ AliveS N W w1.heap.size k g w3.heap.size w'' := fun w' h => by
    have := some_made w'
    exact this.mono fun x w'' ⟨h1, h2, h3⟩ => ⟨_, h1, h2, alive_S hN hAl (bl h h3)⟩
  have K26 : ∀ k' w', Hid ((someEx k').lies w') → Hid (Below N W w') → Calls Tryd.prog 16 #[.agg #[.int .u8 7, .int .i64 0, .string ⟨#[]⟩, .int .i64 0, .int .i64 0, .slice (some ⟨k + 2, 0, none⟩) 2 2], .agg #[.int .u8 7, .int .i64 0, .string ⟨#[]⟩, .int .i64 0, .int .i64 0, .slice (some ⟨k' + 2, 0, none⟩) 2 2]] w' fun x w'' => x = .returned (.bool true) ∧ AliveS N W w1.heap.size k g w3.heap.size w'' := fun k' w' hl h => by
    have := same_prog (someEx k) (someEx k') (by rw [some_bulk]; decide) (by rw [some_bulk]; decide) w' (lies_below (up h) _ hlW) hl
    rw [some_same] at this
    exact this.mono fun x w'' ⟨h1, h2⟩ => ⟨h1, alive_S hN hAl (bl h h2)⟩
  have K26x : ∀ w', Hid (Below N W w') → Calls Tryd.prog 16 #[.agg #[.int .u8 7, .int .i64 0, .string ⟨#[]⟩, .int .i64 0, .int .i64 0, .slice (some ⟨k + 2, 0, none⟩) 2 2], .agg #[.int .u8 1, .int .i64 0, .string ⟨#[120]⟩, .int .i64 0, .int .i64 0, .slice none 0 0]] w' fun x w'' => x = .returned (.bool false) ∧ AliveS N W w1.heap.size k g w3.heap.size w'' := fun w' h => by
    have := same_prog (someEx k) xEx (by rw [some_bulk]; decide) (by decide) w' (lies_below (up h) _ hlW) (x_lies _)
    rw [some_not] at this
    exact this.mono fun x w'' ⟨h1, h2⟩ => ⟨h1, alive_S hN hAl (bl h h2)⟩
  have HK13 : Hid _ := K13
  have HK15 : Hid _ := K15
  have HMp : MayIs N W w1.heap.size k g w3.heap.size (.agg #[.slice (some ⟨w3.heap.size + 1 + 1 + 1, 0, none⟩) 1 1]) 40 := ⟨K21⟩
  have HMe : MayIs N W w1.heap.size k g w3.heap.size (.agg #[.slice none 0 0]) 0 := ⟨K21e⟩
  have HK34 : Hid _ := K34
  have HK26 : Hid (∀ k' w', Hid ((someEx k').lies w') → SameNow N W w1.heap.size k g w3.heap.size w' (.agg #[.int .u8 7, .int .i64 0, .string ⟨#[]⟩, .int .i64 0, .int .i64 0, .slice (some ⟨k + 2, 0, none⟩) 2 2]) (.agg #[.int .u8 7, .int .i64 0, .string ⟨#[]⟩, .int .i64 0, .int .i64 0, .slice (some ⟨k' + 2, 0, none⟩) 2 2]) true) := fun k' w' hl => ⟨K26 k' w' hl⟩
  have HSx : SameIs N W w1.heap.size k g w3.heap.size (.agg #[.int .u8 7, .int .i64 0, .string ⟨#[]⟩, .int .i64 0, .int .i64 0, .slice (some ⟨k + 2, 0, none⟩) 2 2]) (.agg #[.int .u8 1, .int .i64 0, .string ⟨#[120]⟩, .int .i64 0, .int .i64 0, .slice none 0 0]) false := ⟨K26x⟩
  clear K13 K15 K21 K21e K34 K26 K26x
  have HN0 : Hid (Below N W W.drew) := Below.drew (Below.refl _ _)
  have HBe : Hid (∀ w', Hid (Below N W w') → Below w.heap.size w w') := fun w' h => (HBW3.out.trans (hbW.mono HBW3.out.size)).trans ((up h).mono (HBW3.out.trans (hbW.mono HBW3.out.size)).size)
  obtain ⟨-, l0, l1, l2, l3, l4, l5, l6, l7, l8, l9, l10, l11, l12, l13⟩ := alive_S hN hAl (Below.refl N W)
  have HW : Hid _ := hW
  clear hW hWs hbW hAl hLie hTW hlW bl up hBX3 hg3 hl3 hx3 hN C2 hb3
  go_wp2_with fail
  rw [← HW.out]
  clear m0 m1 m2 m3 m4 m5 hb1lt hv HBX HGC HW
  go_region_held3 (fun w' => Hid (Below N W w') ∧ w'.cell? ⟨w1.heap.size, 0, none⟩ = some (.int .u8 7) ∧ w'.cell? ⟨w1.heap.size, 1, none⟩ = some (.int .i64 0) ∧ w'.cell? ⟨w1.heap.size, 2, none⟩ = some (.string ⟨#[]⟩) ∧ w'.cell? ⟨w1.heap.size, 3, none⟩ = some (.int .i64 0) ∧ w'.cell? ⟨w1.heap.size, 4, none⟩ = some (.int .i64 0) ∧ w'.cell? ⟨w1.heap.size, 5, none⟩ = some (.slice (some ⟨k + 2, 0, none⟩) 2 2) ∧ w'.cell? ⟨k + 2, 0, none⟩ = some (.int .u8 1) ∧ w'.cell? ⟨k + 2, 1, none⟩ = some (.int .i64 0) ∧ w'.cell? ⟨k + 2, 2, none⟩ = some (.string ⟨#[120]⟩) ∧ w'.cell? ⟨k + 2, 3, none⟩ = some (.int .i64 0) ∧ w'.cell? ⟨k + 2, 4, none⟩ = some (.int .i64 0) ∧ w'.cell? ⟨k + 2, 5, none⟩ = some (.slice none 0 0) ∧ w'.cell? ⟨g, 0, none⟩ = some (.string ⟨#[102]⟩) ∧ w'.cell? ⟨w3.heap.size + 1 + 1 + 1 + 1, 0, none⟩ = some (.slice (some ⟨w3.heap.size + 1 + 1 + 1, 0, none⟩) 1 1)) (go_simp) (first
    | (go_at_call 22; refine (HK13.out _ (by assumption)).mono ?_; rintro r w5 ⟨rfl, hB5, l0, l1, l2, l3, l4, l5, l6, l7, l8, l9, l10, l11, l12, l13⟩)
    | (go_at_call 23; refine (HK15.out _ (by assumption)).mono ?_; rintro r w5 ⟨rfl, hB5, l0, l1, l2, l3, l4, l5, l6, l7, l8, l9, l10, l11, l12, l13⟩)
    | (go_at_call 10; refine (MayIs.out (by assumption) _ (by assumption)).mono ?_; rintro r w5 ⟨rfl, hB5, l0, l1, l2, l3, l4, l5, l6, l7, l8, l9, l10, l11, l12, l13⟩)
    | (go_at_call 16; refine (SameIs.out (by assumption) _ (by assumption)).mono ?_; rintro r w5 ⟨rfl, hB5, l0, l1, l2, l3, l4, l5, l6, l7, l8, l9, l10, l11, l12, l13⟩)
    | (go_at_call 16; refine (SameNow.out (by assumption) (by assumption)).mono ?_; rintro r w5 ⟨rfl, hB5, l0, l1, l2, l3, l4, l5, l6, l7, l8, l9, l10, l11, l12, l13⟩)
    | (go_at_call 35; refine (HK34.out _ (by assumption)).mono ?_; rintro r w5 ⟨k5, rfl, hl5, hB5, l0, l1, l2, l3, l4, l5, l6, l7, l8, l9, l10, l11, l12, l13⟩; have hS5 := HK26.out k5 w5 hl5))
  all_goals go_wp2_with fail
  all_goals go_ret
  all_goals exact ⟨rfl, HBe.out _ hB5⟩
end Go.Proofs.YthbjagmlcemefaaDoor
