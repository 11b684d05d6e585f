/- Some answers that the document fixes: alive of layer 5. -/
import Derived.Test.YtbahpbinilnfoaaDoorShowNodes
import Derived.Test.YtbahpbinilnfoaaDoorTreeKit
import Derived.Stop.LaidErr
namespace Go.Proofs.YtbahpbinilnfoaaDoor
open Go.RowKit
open Ex.size Ex.depth Ex.lies Ex.bulk Ex.good Ex.shape Ex.text
attribute [local go_sem] later_size later_cell later_frozen later_setCell later_drew later_drewN later_tape drewN_setCell drewN_alloc drewN_later later_later lt_more lt_more1 lt_more2 lt_more3 lt_more4 lk0_0_1 lk1_0_1 lk2_0_1 lk0_0_2 lk1_0_2 lk2_0_2 lk0_1_2 lk0_0_3 lk1_0_3 lk2_0_3 lk0_1_3 lk0_2_3 lk0_0_4 lk1_0_4 lk2_0_4 lk0_1_4 lk0_2_4 lk0_3_4 lk0_0_5 lk1_0_5 lk2_0_5 lk0_1_5 lk0_2_5 lk0_3_5 lk0_4_5 lk0_0_6 lk1_0_6 lk2_0_6 lk0_1_6 lk0_2_6 lk0_3_6 lk0_4_6 lk0_5_6 lk0_0_7 lk1_0_7 lk2_0_7 lk0_1_7 lk0_2_7 lk0_3_7 lk0_4_7 lk0_5_7 lk0_6_7
def five : Ex := .mk 2 0 ⟨#[]⟩ 5 0 none 0 []
def neg1 (b : Nat) : Ex := .mk 5 0 ⟨#[]⟩ 0 0 (some ⟨b, 0, none⟩) 1 [five]
def neg2 (b c : Nat) : Ex := .mk 5 0 ⟨#[]⟩ 0 0 (some ⟨c, 0, none⟩) 1 [neg1 b]
def sum5 (b : Nat) : Ex := .mk 7 0 ⟨#[]⟩ 0 0 (some ⟨b, 0, none⟩) 2 [five, five]
def mul5 (b c : Nat) : Ex := .mk 9 0 ⟨#[]⟩ 0 0 (some ⟨c, 0, none⟩) 2 [sum5 b, five]
def nil0 : Ex := .mk 0 0 ⟨#[]⟩ 0 0 none 0 []
def ndN : Nd := ⟨false, ⟨#[110]⟩, 0, none, 0, [], none, 0, [], none, 0, [], none, 0, []⟩
theorem itoa5 : Lib.itoa 5 = [53] := by rw [itoa_dec (by decide), Lib.decDigits]; rfl
theorem five_text : five.text = [53] := itoa5
theorem neg2_text (b c : Nat) : (neg2 b c).text = [45, 32, 45, 53] := by
  have h1 : (neg1 b).text = [45, 53] := by rw [neg1, text_5, five_text]; rfl
  rw [neg2, text_5, h1]
  rfl
theorem mul5_text (b c : Nat) : (mul5 b c).text = [40, 53, 32, 43, 32, 53, 41, 32, 42, 32, 53] := by
  have h1 : (sum5 b).text = [53, 32, 43, 32, 53] := by rw [sum5, two_text (by unfold isTwo; omega), five_text]; rfl
  rw [mul5, two_text (by unfold isTwo; omega), h1, five_text]
  rfl
theorem neg2_out (b c : Nat) : exprOut (neg2 b c) = (⟨#[45, 32, 45, 53]⟩, 0) := by
  have h : oneMay (neg2 b c) = 0 := by simp [oneMay, neg2, neg1, five, Ex.shape, shapes, argsOkB, argsOf, nameOkB, intOkB, denOkB, ByteArray.toList_eq, Ex.depth, deepest, Ex.size, sizes]
  rw [exprOut, if_pos h, neg2_text]
  rfl
theorem mul5_out (b c : Nat) : exprOut (mul5 b c) = (⟨#[40, 53, 32, 43, 32, 53, 41, 32, 42, 32, 53]⟩, 0) := by
  have h : oneMay (mul5 b c) = 0 := by simp [oneMay, mul5, sum5, five, Ex.shape, shapes, argsOkB, argsOf, nameOkB, intOkB, denOkB, ByteArray.toList_eq, Ex.depth, deepest, Ex.size, sizes]
  rw [exprOut, if_pos h, mul5_text]
  rfl
theorem nil0_out : exprOut nil0 = (⟨#[]⟩, 40) := rfl
def aliveText : List UInt8 := [110, 111, 100, 101, 32, 110, 40, 41, 32, 114, 101, 116, 117, 114, 110, 115, 32, 40, 41, 10, 108, 101, 116, 10, 116, 101, 108, 10]
theorem ndN_out : progOut [ndN] = (⟨aliveText.toArray⟩, 0) := by
  have h : mayOf [ndN] = 0 := by decide +kernel
  rw [progOut, if_pos h]
  rfl
theorem lies_lone {W : World} {kd pl it dn : Int} {nm : ByteArray} {c : Nat} {x : Ex} {T : TypeId} (h : W.heap[c]? = some (.cells x.cells.toArray T (0, 0))) (hx : x.lies W) : Ex.lies W (.mk kd pl nm it dn (some ⟨c, 0, none⟩) 1 [x]) :=
  ⟨c, 0, fun _ => rfl, fun j _ => by rw [cell_of_row h, Nat.zero_add]; simp, hx, trivial⟩
theorem six_len (e : Ex) : e.cells.length = 6 := by cases e; rfl
theorem lies_pair {W : World} {kd pl it dn : Int} {nm : ByteArray} {c : Nat} {x y : Ex} {T : TypeId} (h : W.heap[c]? = some (.cells (x.cells ++ y.cells).toArray T (0, 0))) (hx : x.lies W) (hy : y.lies W) : Ex.lies W (.mk kd pl nm it dn (some ⟨c, 0, none⟩) 2 [x, y]) :=
  ⟨c, 0, fun _ => rfl, fun j hj => by rw [cell_of_row h, Nat.zero_add]; simp only [List.getElem?_toArray]; rw [List.getElem?_append_left (by rw [six_len]; exact hj)], hx, fun j hj => by
    rw [cell_of_row h]
    simp only [List.getElem?_toArray]
    rw [List.getElem?_append_right (by rw [six_len]; omega), six_len]
    congr 1
    omega, hy, trivial⟩
theorem five_lies (W : World) : five.lies W := ⟨0, 0, fun h => absurd rfl h, trivial⟩
theorem five_good : five.good := ⟨⟨by decide, by decide, by decide, by decide, by decide, by decide, by decide⟩, trivial⟩
theorem neg1_good (b : Nat) : (neg1 b).good := ⟨⟨by decide, by decide, by decide, by decide, by decide, by decide, by decide⟩, five_good, trivial⟩
theorem neg2_good (b c : Nat) : (neg2 b c).good := ⟨⟨by decide, by decide, by decide, by decide, by decide, Nat.le_refl 1, by decide⟩, neg1_good b, trivial⟩
theorem sum5_good (b : Nat) : (sum5 b).good := ⟨⟨by decide, by decide, by decide, by decide, by decide, by decide, by decide⟩, five_good, five_good, trivial⟩
theorem mul5_good (b c : Nat) : (mul5 b c).good := ⟨⟨by decide, by decide, by decide, by decide, by decide, Nat.le_refl 2, by decide⟩, sum5_good b, five_good, trivial⟩
theorem nil0_good : nil0.good := ⟨⟨by decide, by decide, by decide, by decide, by decide, by decide, by decide⟩, trivial⟩
theorem nil0_lies (W : World) : nil0.lies W := ⟨0, 0, fun h => absurd rfl h, trivial⟩
theorem ndN_lie {W : World} {c : Nat} (h : W.heap[c]? = some (.cells ndN.cells.toArray 37 (0, 0))) : Lie W (some ⟨c, 0, none⟩) [ndN] := by
  refine ⟨fun _ => ⟨c, 0, rfl, lt_of_block h, fun i hi j hj => ?_⟩, fun n hn => ?_⟩
  · obtain rfl : i = 0 := by simpa using hi
    rw [cell_of_row h]
    simp
  · rw [List.mem_singleton] at hn
    subst hn
    exact ⟨fun h => absurd rfl h, fun h => absurd rfl h, fun h => absurd rfl h, fun h => absurd rfl h, fun q hq => by cases hq⟩
theorem ndN_goods : Goods [ndN] := by
  refine ⟨fun n hn => ?_, by decide, by decide⟩
  rw [List.mem_singleton] at hn
  subst hn
  exact ⟨by decide, by decide, by decide, by decide, by decide, fun p hp => (by cases hp), fun p hp => (by cases hp), fun p hp => (by cases hp), fun p hp => (by cases hp)⟩
theorem ndN_nums : ∀ n ∈ [ndN], n.nums := fun n hn => by
  rw [List.mem_singleton] at hn
  subst hn
  exact ⟨fun p hp => (by cases hp), fun p hp => (by cases hp), fun p hp => (by cases hp), fun p hp => (by cases hp)⟩
/-- The tables lie in the world. -/
structure Tabs (w : World) : Prop where
  tab : HasTab w
  pow : HasPow w
  twos : HasTwos w
  ng : 6 ≤ w.heap.size
theorem Tabs.below {w w' : World} (h : Tabs w) (k : Below w.heap.size w w') : Tabs w' := ⟨h.tab.below k, h.pow.below k (by have := h.ng; omega), h.twos.below k (by have := h.ng; omega), Nat.le_trans h.ng k.size⟩
theorem expr_tabs (e : Ex) (hb : e.bulk ≤ 1048576) (hg : e.good) (w : World) (hl : e.lies w) (h : Tabs w) : Calls Tryd.prog 15 #[e.val] w fun x w' => x = .returned (.tuple #[.string (exprOut e).1, .int .i64 (exprOut e).2]) ∧ Below w.heap.size w w' := expr_prog e hb hg w hl h.tab h.pow h.twos h.ng
set_option maxRecDepth 100000 in
set_option maxHeartbeats 6400000 in
theorem show_alive (w : World) (ht : Tabs w) : Calls Tryd.prog 7 #[] w fun x w' => x = .returned (.bool true) ∧ Below w.heap.size w w' := by
  obtain ⟨w0, hw0⟩ : ∃ w0, w0 = w.alloc (.cells five.cells.toArray 41) := ⟨_, rfl⟩
  obtain ⟨w1, hw1⟩ : ∃ w1, w1 = w0.alloc (.cells five.cells.toArray 41) := ⟨_, rfl⟩
  obtain ⟨W1, hW1⟩ : ∃ W1, W1 = w1.alloc (.cells (neg1 (w.heap.size + 1)).cells.toArray 41) := ⟨_, rfl⟩
  have s0 : w0.heap.size = w.heap.size + 1 := by rw [hw0]; simp
  have s1 : w1.heap.size = w.heap.size + 2 := by rw [hw1]; simp [s0]
  have s2 : W1.heap.size = w.heap.size + 3 := by rw [hW1]; simp [s1]
  have g0 : Below w.heap.size w w0 := by rw [hw0]; exact (Below.refl _ _).alloc (Nat.le_refl _) _
  have g1 : Below w0.heap.size w0 w1 := by rw [hw1]; exact (Below.refl _ _).alloc (Nat.le_refl _) _
  have g2 : Below w1.heap.size w1 W1 := by rw [hW1]; exact (Below.refl _ _).alloc (Nat.le_refl _) _
  have g12 : Below w0.heap.size w0 W1 := g1.trans (g2.mono (by omega))
  have g02 : Below w.heap.size w W1 := g0.trans (g12.mono (by omega))
  have hF : W1.heap[w.heap.size]? = some (.cells five.cells.toArray 41 (0, 0)) := by rw [g12.block _ (by omega), hw0]; exact heap_at rfl
  have hA : W1.heap[w.heap.size + 1]? = some (.cells five.cells.toArray 41 (0, 0)) := by rw [g2.block _ (by omega), hw1]; exact heap_at (by omega)
  have hB : W1.heap[w.heap.size + 1 + 1]? = some (.cells (neg1 (w.heap.size + 1)).cells.toArray 41 (0, 0)) := by rw [hW1]; exact heap_at (by omega)
  have C1 := expr_tabs (neg2 (w.heap.size + 1) (w.heap.size + 1 + 1)) (Nat.le_of_ble_eq_true rfl) (neg2_good _ _) W1 (lies_lone hB (lies_lone hA (five_lies _))) (ht.below g02)
  rw [neg2_out] at C1
  have HE1 : Hid (W1 = ((w.alloc (.cells five.cells.toArray 41)).alloc (.cells five.cells.toArray 41)).alloc (.cells (neg1 (w.heap.size + 1)).cells.toArray 41)) := by rw [Hid, hW1, hw1, hw0]
  have HG : Hid _ := g02
  have HF : Hid _ := hF
  have HT : Hid (Tabs W1) := ht.below g02
  have HS : Hid _ := s2
  have CE : ∀ e : Ex, e.bulk ≤ 1048576 → e.good → ∀ w', Below W1.heap.size W1 w' → e.lies w' → Calls Tryd.prog 15 #[e.val] w' fun x w'' => x = .returned (.tuple #[.string (exprOut e).1, .int .i64 (exprOut e).2]) ∧ Below w'.heap.size w' w'' := fun e hb hg w' h hl => expr_tabs e hb hg w' hl (HT.out.below h)
  have HCE : Hid _ := CE
  have HCP : Hid (∀ c w', Below W1.heap.size W1 w' → w'.heap[c]? = some (.cells ndN.cells.toArray 37 (0, 0)) → Calls Tryd.prog 5 #[.agg #[.slice (some ⟨c, 0, none⟩) 1 1]] w' fun x w'' => x = .returned (.tuple #[.string ⟨aliveText.toArray⟩, .int .i64 0]) ∧ Below w'.heap.size w' w'') := fun c w' h hc => by
    have t := HT.out.below h
    have := program_prog [ndN] (some ⟨c, 0, none⟩) 1 ndN_goods ndN_nums w' (ndN_lie hc) t.tab t.pow t.twos t.ng
    rw [ndN_out] at this
    exact this
  clear hw0 hw1 hW1 s0 s1 s2 g0 g1 g2 g12 g02 hF hA hB ht CE
  simp only [neg2, neg1, five, Ex.val, Ex.cells, List.toArray, List.length_cons, List.length_nil, Nat.zero_add] at C1 HE1 HF
  go_enter Tryd.func7, Tryd.ntmps7
  go_wp2_with fail
  rw [← HE1.out]
  refine C1.mono ?_
  rintro x v1 ⟨rfl, hb1⟩
  have HB1 : Hid _ := hb1
  clear C1 hb1
  have bx := cell_of_row ((HB1.out.block _ (by have := HS.out; omega)).trans HF.out)
  have c0 : v1.cell? ⟨w.heap.size, 0, none⟩ = some (.int .u8 2) := by rw [bx]; rfl
  have c1 : v1.cell? ⟨w.heap.size, 1, none⟩ = some (.int .i64 0) := by rw [bx]; rfl
  have c2 : v1.cell? ⟨w.heap.size, 2, none⟩ = some (.string ⟨#[]⟩) := by rw [bx]; rfl
  have c3 : v1.cell? ⟨w.heap.size, 3, none⟩ = some (.int .i64 5) := by rw [bx]; rfl
  have c4 : v1.cell? ⟨w.heap.size, 4, none⟩ = some (.int .i64 0) := by rw [bx]; rfl
  have c5 : v1.cell? ⟨w.heap.size, 5, none⟩ = some (.slice none 0 0) := by rw [bx]; rfl
  have hlt : w.heap.size < v1.heap.size := by have := HB1.out.size; have := HS.out; omega
  clear bx
  obtain ⟨u1, hu1⟩ : ∃ u1, u1 = v1.alloc (.cells (five.cells ++ five.cells).toArray 41) := ⟨_, rfl⟩
  obtain ⟨W2, hW2⟩ : ∃ W2, W2 = u1.alloc (.cells ((sum5 v1.heap.size).cells ++ five.cells).toArray 41) := ⟨_, rfl⟩
  have t1 : u1.heap.size = v1.heap.size + 1 := by rw [hu1]; simp
  have k1 : Below v1.heap.size v1 u1 := by rw [hu1]; exact (Below.refl _ _).alloc (Nat.le_refl _) _
  have k2 : Below u1.heap.size u1 W2 := by rw [hW2]; exact (Below.refl _ _).alloc (Nat.le_refl _) _
  have k12 : Below v1.heap.size v1 W2 := k1.trans (k2.mono (by omega))
  have hA : W2.heap[v1.heap.size]? = some (.cells (five.cells ++ five.cells).toArray 41 (0, 0)) := by rw [k2.block _ (by omega), hu1]; exact heap_at rfl
  have hB : W2.heap[v1.heap.size + 1]? = some (.cells ((sum5 v1.heap.size).cells ++ five.cells).toArray 41 (0, 0)) := by rw [hW2]; exact heap_at (by omega)
  have HB2 : Hid (Below W1.heap.size W1 W2) := HB1.out.trans (k12.mono HB1.out.size)
  have C2 := HCE.out (mul5 v1.heap.size (v1.heap.size + 1)) (Nat.le_of_ble_eq_true rfl) (mul5_good _ _) W2 HB2.out (lies_pair hB (lies_pair hA (five_lies _) (five_lies _)) (five_lies _))
  rw [mul5_out] at C2
  have HE2 : Hid (W2 = (v1.alloc (.cells (five.cells ++ five.cells).toArray 41)).alloc (.cells ((sum5 v1.heap.size).cells ++ five.cells).toArray 41)) := by rw [Hid, hW2, hu1]
  clear hu1 hW2 t1 k1 k2 k12 hA hB
  simp only [mul5, sum5, five, Ex.val, Ex.cells, List.toArray, List.length_cons, List.length_nil, Nat.zero_add, Nat.reduceAdd, List.cons_append, List.nil_append] at C2 HE2
  go_wp2_with fail
  rw [← HE2.out]
  refine C2.mono ?_
  rintro x v2 ⟨rfl, hb2⟩
  have HB3 : Hid (Below W1.heap.size W1 v2) := HB2.out.trans (hb2.mono HB2.out.size)
  have C3 := HCE.out nil0 (by decide) nil0_good v2 HB3.out (nil0_lies _)
  rw [nil0_out] at C3
  simp only [nil0, Ex.val, Ex.cells, List.toArray, List.length_nil] at C3
  clear C2 hb2 c0 c1 c2 c3 c4 c5 hlt
  go_wp2_with fail
  refine C3.mono ?_
  rintro x v3 ⟨rfl, hb3⟩
  have HB4 : Hid (Below W1.heap.size W1 v3) := HB3.out.trans (hb3.mono HB3.out.size)
  have C4 := HCP.out v3.heap.size (v3.alloc (.cells ndN.cells.toArray 37)) (HB4.out.alloc HB4.out.size _) (heap_at rfl)
  simp only [ndN, Nd.cells, List.toArray, List.length_nil, aliveText] at C4
  clear C3 hb3
  go_wp2_with fail
  refine C4.mono ?_
  rintro x v4 ⟨rfl, hb4⟩
  have HB5 : Hid (Below W1.heap.size W1 v4) := (HB4.out.alloc HB4.out.size _).trans (hb4.mono (by have := HB4.out.size; simp; omega))
  clear C4 hb4
  go_wp2_with fail
  go_ret
  exact ⟨rfl, HG.out.trans (HB5.out.mono (by have := HS.out; omega))⟩
end Go.Proofs.YtbahpbinilnfoaaDoor
/- What the rows of layer 5 give: the tables. -/
namespace Go.Proofs.YtbahpbinilnfoaaDoor
open Go.ChangeShapes Go.WideShapes Go.ChangeAt Go.RowKit
open Ex.size Ex.depth Ex.lies Ex.bulk Ex.good
def laidShow : List (String × DataW Unit) := [("math/bits.deBruijn32tab", Rows.laid_math_bits_deBruijn32tab), ("math/bits.deBruijn64tab", Rows.laid_math_bits_deBruijn64tab), ("internal/strconv.uint64pow10", Rows.laid_internal_strconv_uint64pow10), ("carillon/tree.argCount", Rows.laid_carillon_tree_argCount), ("carillon/show.twos", Rows.laid_carillon_show_twos)]
def bruijn : List Int := [0, 1, 56, 2, 57, 49, 28, 3, 61, 58, 42, 50, 38, 29, 17, 4, 62, 47, 59, 36, 45, 43, 51, 22, 53, 39, 33, 30, 24, 18, 12, 5, 63, 55, 48, 27, 60, 41, 37, 16, 46, 35, 44, 21, 52, 32, 23, 11, 54, 26, 40, 15, 34, 20, 31, 10, 25, 14, 19, 9, 13, 8, 7, 6]
theorem gBruijn : Tryd.prog.globalNamed "math/bits.deBruijn64tab" = some 5 := by kernel_rfl
theorem gBruijnType : (Tryd.prog.globals[5]?).map (·.type) = some 133 := by kernel_rfl
theorem cellsBruijn : Tryd.prog.cellsOf 133 = 64 := by kernel_rfl
theorem cellsByte1 : Tryd.prog.cellsOf 5 = 1 := by kernel_rfl
theorem gPowType : (Tryd.prog.globals[3]?).map (·.type) = some 125 := by kernel_rfl
theorem cellsPow : Tryd.prog.cellsOf 125 = 20 := by kernel_rfl
theorem cellsWord : Tryd.prog.cellsOf 118 = 1 := by kernel_rfl
theorem gTwos : Tryd.prog.globalNamed "carillon/show.twos" = some 0 := by kernel_rfl
theorem gTwosType : (Tryd.prog.globals[0]?).map (·.type) = some 87 := by kernel_rfl
theorem cellsTwos : Tryd.prog.cellsOf 86 = 3 := by kernel_rfl
theorem cellsOne3 : Tryd.prog.cellsOf 3 = 1 := by kernel_rfl
theorem cellsOne9 : Tryd.prog.cellsOf 9 = 1 := by kernel_rfl
set_option maxRecDepth 100000 in
/-- One entry of the table. -/
theorem two_of {H : Type} {enc : TypeId × Value → H} {w : World} {base fuel : Nat} {sp : Nat → Bool} {hd : Bool} {cs : List Value} {a b : Int} {l : List UInt8} {p : List MemPlace} (h : DataW.trod enc Tryd.prog w base sp hd fuel 86 cs = some (.agg [.lit (.int .i64 a), .lit (.string l), .lit (.int .i64 b)], p)) : cs = [.int .i64 a, .string ⟨l.toArray⟩, .int .i64 b] := by
  obtain ⟨xs, n, rfl, hx, hlen, hxl, hf⟩ := DataW.trod_struct Tryd.underlying86 h
  rw [cellsTwos] at hlen
  match cs, hlen with
  | [v0, v1, v2], _ =>
  match xs, hxl with
  | [y0, y1, y2], _ =>
  have h0 : DataW.trod enc Tryd.prog w base sp hd n 3 [v0] = some y0 := by have := hf 0 _ rfl; simpa [cellsOne3] using this
  have h1 : DataW.trod enc Tryd.prog w base sp hd n 9 [v1] = some y1 := by have := hf 1 _ rfl; simpa [cellsOne9] using this
  have h2 : DataW.trod enc Tryd.prog w base sp hd n 3 [v2] = some y2 := by have := hf 2 _ rfl; simpa [cellsOne3] using this
  obtain ⟨s0, e0, rfl, _⟩ := DataW.trod_int Tryd.underlying3 h0
  obtain ⟨s1, e1, rfl, _⟩ := DataW.trod_string Tryd.underlying9 h1
  obtain ⟨s2, e2, rfl, _⟩ := DataW.trod_int Tryd.underlying3 h2
  simp only [List.map_cons, List.map_nil, Prod.mk.injEq, DataW.agg.injEq, List.cons.injEq, DataW.lit.injEq, Lit.int.injEq, Lit.string.injEq, true_and, and_true] at hx e0 e1 e2
  obtain ⟨⟨rfl, rfl, rfl⟩, -⟩ := hx
  rw [e0, e1, e2]
/-- The kinds of two Args, as the table has them. -/
def twoData {H : Type} (k : Nat) : DataW H := .agg [.lit (.int .i64 (firstOf k)), .lit (.string (signOf k)), .lit (.int .i64 (secondOf k))]
theorem twos_data {H : Type} : ∀ k : Nat, (7 ≤ k ∧ k ≤ 19) ∨ k = 21 ∨ k = 22 → ∀ l : List (DataW H), (.agg l : DataW H) = Rows.laid_carillon_show_twos → l[k]? = some (twoData k) := fun k hk l hl => by
  unfold Rows.laid_carillon_show_twos at hl
  simp only [DataW.agg.injEq] at hl
  subst hl
  have : k = 7 ∨ k = 8 ∨ k = 9 ∨ k = 10 ∨ k = 11 ∨ k = 12 ∨ k = 13 ∨ k = 14 ∨ k = 15 ∨ k = 16 ∨ k = 17 ∨ k = 18 ∨ k = 19 ∨ k = 21 ∨ k = 22 := by omega
  rcases this with rfl | rfl | rfl | rfl | rfl | rfl | rfl | rfl | rfl | rfl | rfl | rfl | rfl | rfl | rfl <;> rfl
theorem twos_of {W : World} (h : laidMet Tryd.prog [("carillon/show.twos", Rows.laid_carillon_show_twos)] W) : HasTwos W := by
  obtain ⟨ps, ⟨g0, t0, cs0, f0, p0, q0, hg0, ht0, hv0, hd0, _, e0⟩, _⟩ := h
  obtain rfl := Option.some.inj (gTwos.symm.trans hg0)
  obtain rfl := Option.some.inj (gTwosType.symm.trans ht0)
  obtain ⟨xs, m, rfl, hx, hlen, hxl, hf⟩ := DataW.trod_array Tryd.underlying87 hd0
  simp only [Prod.mk.injEq] at hx
  intro kd hk
  obtain ⟨k, rfl⟩ : ∃ k : Nat, kd = k := ⟨kd.toNat, by unfold isTwo at hk; omega⟩
  have hk' : (7 ≤ k ∧ k ≤ 19) ∨ k = 21 ∨ k = 22 := by unfold isTwo at hk; omega
  have hd := twos_data k hk' (xs.map (·.1)) hx.1.symm
  rw [List.getElem?_map] at hd
  obtain ⟨y, hy1, hy2⟩ := Option.map_eq_some_iff.1 hd
  have h1 := hf k (by omega)
  rw [hy1, cellsTwos] at h1
  obtain ⟨y1, y2⟩ := y
  simp only at hy2
  subst hy2
  have h2 := two_of h1
  have at_ : ∀ j, j < 3 → W.cell? ⟨0, k * 3 + j, none⟩ = ([.int .i64 (firstOf k), .string ⟨(signOf k).toArray⟩, .int .i64 (secondOf k)] : List Value)[j]? := fun j hj => by
    rw [World.var?_cell gTwos hv0 (k * 3 + j), ← h2, List.getElem?_take_of_lt hj, List.getElem?_drop]
    simp
  refine ⟨?_, ?_, ?_⟩
  · exact at_ 0 (by omega)
  · exact at_ 1 (by omega)
  · exact at_ 2 (by omega)
set_option maxRecDepth 100000 in
theorem tabs_of {W : World} (h : laidMetH Tryd.prog laidShow W) : Tabs W := by
  have h0 : laidMet Tryd.prog laidShow W := h
  have h1 := laidMet.tail h0
  have h2 := laidMet.tail h1
  have h3 := laidMet.tail h2
  have h4 := laidMet.tail h3
  have hb : Lib.TabIs Tryd.prog W "math/bits.deBruijn64tab" .u8 bruijn := Lib.tabIs_of_head gBruijn gBruijnType Tryd.underlying133 Tryd.underlying5 cellsByte1 cellsBruijn h1
  have hp : HasPow W := Lib.tabIs_of_head gPow gPowType Tryd.underlying125 Tryd.underlying118 cellsWord cellsPow h2
  have ht : Lib.TabIs Tryd.prog W "carillon/tree.argCount" .i64 tabList := Lib.tabIs_of_head gTab gTabType Tryd.underlying123 Tryd.underlying3 cellsInt cellsTab h3
  refine ⟨fun k hk => ?_, hp, twos_of h4, ?_⟩
  · have : k = 0 ∨ k = 1 ∨ k = 2 ∨ k = 3 ∨ k = 4 ∨ k = 5 ∨ k = 6 ∨ k = 7 ∨ k = 8 ∨ k = 9 ∨ k = 10 ∨ k = 11 ∨ k = 12 ∨ k = 13 ∨ k = 14 ∨ k = 15 ∨ k = 16 ∨ k = 17 ∨ k = 18 ∨ k = 19 ∨ k = 20 ∨ k = 21 ∨ k = 22 ∨ k = 23 ∨ k = 24 ∨ k = 25 ∨ k = 26 := by omega
    rcases this with rfl | rfl | rfl | rfl | rfl | rfl | rfl | rfl | rfl | rfl | rfl | rfl | rfl | rfl | rfl | rfl | rfl | rfl | rfl | rfl | rfl | rfl | rfl | rfl | rfl | rfl | rfl <;> exact ht.cell gTab _ (by decide)
  · have := World.block_lt_of_cell? W ⟨5, 0, none⟩ (hb.cell gBruijn 0 (by decide))
    show 6 ≤ W.heap.size
    have h5 : 5 < W.heap.size := this
    omega
theorem doorShow (os : Os) (args : Array Value) : laidMetH Tryd.prog laidShow ((World.doorLaid Tryd.prog 400 os).forCall (fun _ _ => 0) ⟨#[], args, []⟩).memory :=
  laidMet_of_run' 8 (by kernel_rfl) (by kernel_rfl)
end Go.Proofs.YtbahpbinilnfoaaDoor
