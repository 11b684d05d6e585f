/- What the rows of layer 5 give: the tables. -/
import Derived.Test.YthbjagmlcemefaaDoorTreeKit
import Derived.Test.YthbjagmlcemefaaDoorShowAlive
import Derived.Stop.LaidErr
namespace Go.Proofs.YthbjagmlcemefaaDoor
open Go.ChangeShapes Go.WideShapes Go.ChangeAt Go.RowKit
open Ex.size Ex.depth Ex.lies Ex.bulk Ex.good
def laidShow : List (String × DataW Unit) := [("math/bits.deBruijn32tab", Rows.laid_math_bits_deBruijn32tab), ("math/bits.deBruijn64tab", Rows.laid_math_bits_deBruijn64tab), ("internal/strconv.uint64pow10", Rows.laid_internal_strconv_uint64pow10), ("carillon/tree.argCount", Rows.laid_carillon_tree_argCount), ("carillon/show.twos", Rows.laid_carillon_show_twos)]
def bruijn : List Int := [0, 1, 56, 2, 57, 49, 28, 3, 61, 58, 42, 50, 38, 29, 17, 4, 62, 47, 59, 36, 45, 43, 51, 22, 53, 39, 33, 30, 24, 18, 12, 5, 63, 55, 48, 27, 60, 41, 37, 16, 46, 35, 44, 21, 52, 32, 23, 11, 54, 26, 40, 15, 34, 20, 31, 10, 25, 14, 19, 9, 13, 8, 7, 6]
theorem gBruijn : Tryd.prog.globalNamed "math/bits.deBruijn64tab" = some 5 := by kernel_rfl
theorem gBruijnType : (Tryd.prog.globals[5]?).map (·.type) = some 168 := by kernel_rfl
theorem cellsBruijn : Tryd.prog.cellsOf 168 = 64 := by kernel_rfl
theorem cellsByte1 : Tryd.prog.cellsOf 5 = 1 := by kernel_rfl
theorem gPowType : (Tryd.prog.globals[2]?).map (·.type) = some 159 := by kernel_rfl
theorem cellsPow : Tryd.prog.cellsOf 159 = 20 := by kernel_rfl
theorem cellsWord : Tryd.prog.cellsOf 151 = 1 := by kernel_rfl
theorem gTwos : Tryd.prog.globalNamed "carillon/show.twos" = some 0 := by kernel_rfl
theorem gTwosType : (Tryd.prog.globals[0]?).map (·.type) = some 120 := by kernel_rfl
theorem cellsTwos : Tryd.prog.cellsOf 119 = 3 := by kernel_rfl
theorem cellsOne3 : Tryd.prog.cellsOf 3 = 1 := by kernel_rfl
theorem cellsOne9 : Tryd.prog.cellsOf 9 = 1 := by kernel_rfl
set_option maxRecDepth 100000 in
/-- One entry of the table. -/
theorem two_of {H : Type} {enc : TypeId × Value → H} {w : World} {base fuel : Nat} {sp : Nat → Bool} {hd : Bool} {cs : List Value} {a b : Int} {l : List UInt8} {p : List MemPlace} (h : DataW.trod enc Tryd.prog w base sp hd fuel 119 cs = some (.agg [.lit (.int .i64 a), .lit (.string l), .lit (.int .i64 b)], p)) : cs = [.int .i64 a, .string ⟨l.toArray⟩, .int .i64 b] := by
  obtain ⟨xs, n, rfl, hx, hlen, hxl, hf⟩ := DataW.trod_struct Tryd.underlying119 h
  rw [cellsTwos] at hlen
  match cs, hlen with
  | [v0, v1, v2], _ =>
  match xs, hxl with
  | [y0, y1, y2], _ =>
  have h0 : DataW.trod enc Tryd.prog w base sp hd n 3 [v0] = some y0 := by have := hf 0 _ rfl; simpa [cellsOne3] using this
  have h1 : DataW.trod enc Tryd.prog w base sp hd n 9 [v1] = some y1 := by have := hf 1 _ rfl; simpa [cellsOne9] using this
  have h2 : DataW.trod enc Tryd.prog w base sp hd n 3 [v2] = some y2 := by have := hf 2 _ rfl; simpa [cellsOne3] using this
  obtain ⟨s0, e0, rfl, _⟩ := DataW.trod_int Tryd.underlying3 h0
  obtain ⟨s1, e1, rfl, _⟩ := DataW.trod_string Tryd.underlying9 h1
  obtain ⟨s2, e2, rfl, _⟩ := DataW.trod_int Tryd.underlying3 h2
  simp only [List.map_cons, List.map_nil, Prod.mk.injEq, DataW.agg.injEq, List.cons.injEq, DataW.lit.injEq, Lit.int.injEq, Lit.string.injEq, true_and, and_true] at hx e0 e1 e2
  obtain ⟨⟨rfl, rfl, rfl⟩, -⟩ := hx
  rw [e0, e1, e2]
/-- The kinds of two Args, as the table has them. -/
def twoData {H : Type} (k : Nat) : DataW H := .agg [.lit (.int .i64 (firstOf k)), .lit (.string (signOf k)), .lit (.int .i64 (secondOf k))]
theorem twos_data {H : Type} : ∀ k : Nat, (7 ≤ k ∧ k ≤ 19) ∨ k = 21 ∨ k = 22 → ∀ l : List (DataW H), (.agg l : DataW H) = Rows.laid_carillon_show_twos → l[k]? = some (twoData k) := fun k hk l hl => by
  unfold Rows.laid_carillon_show_twos at hl
  simp only [DataW.agg.injEq] at hl
  subst hl
  have : k = 7 ∨ k = 8 ∨ k = 9 ∨ k = 10 ∨ k = 11 ∨ k = 12 ∨ k = 13 ∨ k = 14 ∨ k = 15 ∨ k = 16 ∨ k = 17 ∨ k = 18 ∨ k = 19 ∨ k = 21 ∨ k = 22 := by omega
  rcases this with rfl | rfl | rfl | rfl | rfl | rfl | rfl | rfl | rfl | rfl | rfl | rfl | rfl | rfl | rfl <;> rfl
theorem twos_of {W : World} (h : laidMet Tryd.prog [("carillon/show.twos", Rows.laid_carillon_show_twos)] W) : HasTwos W := by
  obtain ⟨ps, ⟨g0, t0, cs0, f0, p0, q0, hg0, ht0, hv0, hd0, _, e0⟩, _⟩ := h
  obtain rfl := Option.some.inj (gTwos.symm.trans hg0)
  obtain rfl := Option.some.inj (gTwosType.symm.trans ht0)
  obtain ⟨xs, m, rfl, hx, hlen, hxl, hf⟩ := DataW.trod_array Tryd.underlying120 hd0
  simp only [Prod.mk.injEq] at hx
  intro kd hk
  obtain ⟨k, rfl⟩ : ∃ k : Nat, kd = k := ⟨kd.toNat, by unfold isTwo at hk; omega⟩
  have hk' : (7 ≤ k ∧ k ≤ 19) ∨ k = 21 ∨ k = 22 := by unfold isTwo at hk; omega
  have hd := twos_data k hk' (xs.map (·.1)) hx.1.symm
  rw [List.getElem?_map] at hd
  obtain ⟨y, hy1, hy2⟩ := Option.map_eq_some_iff.1 hd
  have h1 := hf k (by omega)
  rw [hy1, cellsTwos] at h1
  obtain ⟨y1, y2⟩ := y
  simp only at hy2
  subst hy2
  have h2 := two_of h1
  have at_ : ∀ j, j < 3 → W.cell? ⟨0, k * 3 + j, none⟩ = ([.int .i64 (firstOf k), .string ⟨(signOf k).toArray⟩, .int .i64 (secondOf k)] : List Value)[j]? := fun j hj => by
    rw [World.var?_cell gTwos hv0 (k * 3 + j), ← h2, List.getElem?_take_of_lt hj, List.getElem?_drop]
    simp
  refine ⟨?_, ?_, ?_⟩
  · exact at_ 0 (by omega)
  · exact at_ 1 (by omega)
  · exact at_ 2 (by omega)
set_option maxRecDepth 100000 in
theorem tabs_of {W : World} (h : laidMetH Tryd.prog laidShow W) : Tabs W := by
  have h0 : laidMet Tryd.prog laidShow W := h
  have h1 := laidMet.tail h0
  have h2 := laidMet.tail h1
  have h3 := laidMet.tail h2
  have h4 := laidMet.tail h3
  have hb : Lib.TabIs Tryd.prog W "math/bits.deBruijn64tab" .u8 bruijn := Lib.tabIs_of_head gBruijn gBruijnType Tryd.underlying168 Tryd.underlying5 cellsByte1 cellsBruijn h1
  have hp : HasPow W := Lib.tabIs_of_head gPow gPowType Tryd.underlying159 Tryd.underlying151 cellsWord cellsPow h2
  have ht : Lib.TabIs Tryd.prog W "carillon/tree.argCount" .i64 tabList := Lib.tabIs_of_head gTab gTabType Tryd.underlying145 Tryd.underlying3 cellsInt cellsTab h3
  refine ⟨fun k hk => ?_, hp, twos_of h4, ?_⟩
  · have : k = 0 ∨ k = 1 ∨ k = 2 ∨ k = 3 ∨ k = 4 ∨ k = 5 ∨ k = 6 ∨ k = 7 ∨ k = 8 ∨ k = 9 ∨ k = 10 ∨ k = 11 ∨ k = 12 ∨ k = 13 ∨ k = 14 ∨ k = 15 ∨ k = 16 ∨ k = 17 ∨ k = 18 ∨ k = 19 ∨ k = 20 ∨ k = 21 ∨ k = 22 ∨ k = 23 ∨ k = 24 ∨ k = 25 ∨ k = 26 := by omega
    rcases this with rfl | rfl | rfl | rfl | rfl | rfl | rfl | rfl | rfl | rfl | rfl | rfl | rfl | rfl | rfl | rfl | rfl | rfl | rfl | rfl | rfl | rfl | rfl | rfl | rfl | rfl | rfl <;> exact ht.cell gTab _ (by decide)
  · have := World.block_lt_of_cell? W ⟨5, 0, none⟩ (hb.cell gBruijn 0 (by decide))
    show 6 ≤ W.heap.size
    have h5 : 5 < W.heap.size := this
    omega
theorem doorShow (os : Os) (args : Array Value) : laidMetH Tryd.prog laidShow ((World.doorLaid Tryd.prog 400 os).forCall (fun _ _ => 0) ⟨#[], args, []⟩).memory :=
  laidMet_of_run' 8 (by kernel_rfl) (by kernel_rfl)
end Go.Proofs.YthbjagmlcemefaaDoor
