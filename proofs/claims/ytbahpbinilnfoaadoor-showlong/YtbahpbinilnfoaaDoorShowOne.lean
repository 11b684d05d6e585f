/- The program's Expr of package show. -/
import Derived.Test.YtbahpbinilnfoaaDoorShowText
import Derived.Test.YtbahpbinilnfoaaDoorShowOut
import Derived.Test.YtbahpbinilnfoaaDoorShowLen
namespace Go.Proofs.YtbahpbinilnfoaaDoor
open Go.RowKit
open Ex.size Ex.depth Ex.lies Ex.bulk Ex.good Ex.shape Ex.text
attribute [local go_sem] later_size later_cell later_frozen later_setCell later_drew later_drewN later_tape drewN_setCell drewN_alloc drewN_later later_later lt_more lt_more1 lt_more2 lt_more3 lt_more4 lk0_0_1 lk1_0_1 lk2_0_1 lk0_0_2 lk1_0_2 lk2_0_2 lk0_1_2 lk0_0_3 lk1_0_3 lk2_0_3 lk0_1_3 lk0_2_3 lk0_0_4 lk1_0_4 lk2_0_4 lk0_1_4 lk0_2_4 lk0_3_4 lk0_0_5 lk1_0_5 lk2_0_5 lk0_1_5 lk0_2_5 lk0_3_5 lk0_4_5 lk0_0_6 lk1_0_6 lk2_0_6 lk0_1_6 lk0_2_6 lk0_3_6 lk0_4_6 lk0_5_6 lk0_0_7 lk1_0_7 lk2_0_7 lk0_1_7 lk0_2_7 lk0_3_7 lk0_4_7 lk0_5_7 lk0_6_7
/-- The program of one node n with the one equation x = e. -/
def oneEq (na : Option Addr) (nc : Nat) (e : Ex) : Eqn := ⟨na, nc, [⟨#[120]⟩], 0, e⟩
def oneNd (na qa : Option Addr) (nc qc : Nat) (e : Ex) : Nd := ⟨false, ⟨#[110]⟩, 0, none, 0, [], none, 0, [], none, 0, [], qa, qc, [oneEq na nc e]⟩
def oneMay (e : Ex) : Int := if e.shape = false then 40 else if 64 < e.depth then 41 else if 4096 < e.size then 42 else 0
theorem one_may (na qa : Option Addr) (nc qc : Nat) (e : Ex) : mayOf [oneNd na qa nc qc e] = oneMay e := by
  have n1 : nameB ⟨#[110]⟩ = true := by decide +kernel
  have n2 : nameB ⟨#[120]⟩ = true := by decide +kernel
  simp only [mayOf, oneMay, oneNd, oneEq, fewB, ndB, eqB, ndDeep, ndSizes, eqDeep, eqSizes, List.all_cons, List.all_nil, List.length_cons, List.length_nil, n1, n2]
  simp
theorem one_goods {na qa : Option Addr} {nc qc : Nat} {e : Ex} (hg : e.good) (hb : e.bulk ≤ 1048576) : Goods [oneNd na qa nc qc e] := by
  have hs := size_bulk e
  refine ⟨fun n hn => ?_, by simp, by simp only [ndSizes, oneNd, oneEq, eqSizes]; omega⟩
  rw [List.mem_singleton] at hn
  subst hn
  refine ⟨by simp only [oneNd]; decide, by simp [oneNd], by simp [oneNd], by simp [oneNd], by simp [oneNd], fun p hp => (by cases hp), fun p hp => (by cases hp), fun p hp => (by cases hp), ?_⟩
  intro q hq
  simp only [oneNd, List.mem_singleton] at hq
  subst hq
  exact ⟨fun s hs => by simp only [oneEq, List.mem_singleton] at hs; subst hs; decide, by simp [oneEq], hg, hb⟩
theorem one_lie {w : World} {b1 b2 b3 : Nat} {e : Ex} (he : e.lies w) (h1 : w.heap[b1]? = some (.cells #[.string ⟨#[120]⟩] 9 (0, 0))) (h2 : w.heap[b2]? = some (.cells (oneEq (some ⟨b1, 0, none⟩) 1 e).cells.toArray 43 (0, 0)))
    (h3 : w.heap[b3]? = some (.cells (oneNd (some ⟨b1, 0, none⟩) (some ⟨b2, 0, none⟩) 1 1 e).cells.toArray 37 (0, 0))) : Lie w (some ⟨b3, 0, none⟩) [oneNd (some ⟨b1, 0, none⟩) (some ⟨b2, 0, none⟩) 1 1 e] := by
  have row : ∀ {α : Type} (f : α → List Value) (z b T : Nat) (x : α), w.heap[b]? = some (.cells (f x).toArray T (0, 0)) → rowIn f z w (some ⟨b, 0, none⟩) [x] := fun f z b T x hb => fun _ => by
    refine ⟨b, 0, rfl, lt_of_block hb, fun i hi j hj => ?_⟩
    obtain rfl : i = 0 := by simpa using hi
    rw [cell_of_row hb]
    simp
  refine ⟨row _ _ _ _ _ h3, fun n hn => ?_⟩
  rw [List.mem_singleton] at hn
  subst hn
  refine ⟨fun h => absurd rfl h, fun h => absurd rfl h, fun h => absurd rfl h, row _ _ _ _ _ h2, fun q hq => ?_⟩
  simp only [oneNd, List.mem_singleton] at hq
  subst hq
  exact ⟨row textOf _ _ _ _ h1, he⟩
/-- What is answered for an expression. -/
def exprOut (e : Ex) : ByteArray × Int := if oneMay e = 0 then outOf e.text else (⟨#[]⟩, oneMay e)
theorem one_ok {e : Ex} (h : oneMay e = 0) : e.shape = true ∧ e.depth ≤ 64 ∧ e.size ≤ 4096 := by
  unfold oneMay at h
  split at h
  · exact absurd h (by decide)
  split at h
  · exact absurd h (by decide)
  split at h
  · exact absurd h (by decide)
  rename_i h1 h2 h3
  exact ⟨by simpa using h1, by omega, by omega⟩
set_option maxRecDepth 100000 in
set_option maxHeartbeats 1600000 in
theorem expr1_calls (e : Ex) (k b : Nat) {W w : World} {s : List UInt8} (hp : PutsExpr W b e) (hbx : w.heap[k]? = some (.cells e.cells.toArray 41 (0, 0))) (hw : Writes W b s w) (hr : room s e.text) :
    Calls Tryd.prog 31 #[pv b, .pointer (some ⟨k, 0, none⟩)] w fun x w' => x = .returned (.tuple #[]) ∧ Writes W b (s ++ e.text) w' ∧ Keeps b w w' := by
  have HW : Hid _ := hw
  have HR : Hid _ := hr
  have CE := hp s w HW.out HR.out
  have six := six_box hbx
  generalize e.text = T at *
  obtain ⟨kd, pl, nm, it, dn, a, cap, l⟩ := e
  obtain ⟨n, hn⟩ : ∃ n, n = l.length := ⟨_, rfl⟩
  simp only [Ex.val, Ex.cells, List.toArray, pv, ← hn] at *
  have c0 : w.cell? ⟨k, 0, none⟩ = some (.int .u8 kd) := six 0 (by omega)
  have c1 : w.cell? ⟨k, 1, none⟩ = some (.int .i64 pl) := six 1 (by omega)
  have c2 : w.cell? ⟨k, 2, none⟩ = some (.string nm) := six 2 (by omega)
  have c3 : w.cell? ⟨k, 3, none⟩ = some (.int .i64 it) := six 3 (by omega)
  have c4 : w.cell? ⟨k, 4, none⟩ = some (.int .i64 dn) := six 4 (by omega)
  have c5 : w.cell? ⟨k, 5, none⟩ = some (.slice a n cap) := six 5 (by omega)
  clear six hw hr hp hbx hn
  go_enter Tryd.func31, Tryd.ntmps31
  go_wp2_with fail
  refine CE.mono ?_
  rintro x w1 ⟨rfl, h1, h2⟩
  have H1 : Hid _ := h1
  have H2 : Hid _ := h2
  clear CE h1 h2
  go_wp2_with fail
  go_end0
  exact ⟨rfl, H1.out, H2.out⟩
set_option maxRecDepth 100000 in
set_option maxHeartbeats 6400000 in
theorem expr_prog (e : Ex) (hb : e.bulk ≤ 1048576) (hg : e.good) (w : World) (hl : e.lies w) (ht : HasTab w) (hpow : HasPow w) (htw : HasTwos w) (hng : 6 ≤ w.heap.size) :
    Calls Tryd.prog 15 #[e.val] w fun x w' => x = .returned (.tuple #[.string (exprOut e).1, .int .i64 (exprOut e).2]) ∧ Below w.heap.size w w' := by
  obtain ⟨w1, hw1⟩ : ∃ w1, w1 = w.alloc (.cells e.cells.toArray 41) := ⟨_, rfl⟩
  obtain ⟨w2, hw2⟩ : ∃ w2, w2 = w1.alloc (.cells #[.string ⟨#[120]⟩] 9) := ⟨_, rfl⟩
  obtain ⟨w3, hw3⟩ : ∃ w3, w3 = w2.alloc (.cells (oneEq (some ⟨w.heap.size + 1, 0, none⟩) 1 e).cells.toArray 43) := ⟨_, rfl⟩
  obtain ⟨w4, hw4⟩ : ∃ w4, w4 = w3.alloc (.cells (oneNd (some ⟨w.heap.size + 1, 0, none⟩) (some ⟨w.heap.size + 1 + 1, 0, none⟩) 1 1 e).cells.toArray 37) := ⟨_, rfl⟩
  obtain ⟨W, hW⟩ : ∃ W, W = w4.alloc (.cells (oneNd (some ⟨w.heap.size + 1, 0, none⟩) (some ⟨w.heap.size + 1 + 1, 0, none⟩) 1 1 e).cells.toArray 37) := ⟨_, rfl⟩
  have s1 : w1.heap.size = w.heap.size + 1 := by rw [hw1]; simp
  have s2 : w2.heap.size = w.heap.size + 2 := by rw [hw2]; simp [s1]
  have s3 : w3.heap.size = w.heap.size + 3 := by rw [hw3]; simp [s2]
  have s4 : w4.heap.size = w.heap.size + 4 := by rw [hw4]; simp [s3]
  have s5 : W.heap.size = w.heap.size + 5 := by rw [hW]; simp [s4]
  have g1 : Below w.heap.size w w1 := by rw [hw1]; exact (Below.refl _ _).alloc (Nat.le_refl _) _
  have g2 : Below w1.heap.size w1 w2 := by rw [hw2]; exact (Below.refl _ _).alloc (Nat.le_refl _) _
  have g3 : Below w2.heap.size w2 w3 := by rw [hw3]; exact (Below.refl _ _).alloc (Nat.le_refl _) _
  have g4 : Below w3.heap.size w3 w4 := by rw [hw4]; exact (Below.refl _ _).alloc (Nat.le_refl _) _
  have g5 : Below w4.heap.size w4 W := by rw [hW]; exact (Below.refl _ _).alloc (Nat.le_refl _) _
  have g45 : Below w3.heap.size w3 W := g4.trans (g5.mono (by omega))
  have g35 : Below w2.heap.size w2 W := g3.trans (g45.mono (by omega))
  have g25 : Below w1.heap.size w1 W := g2.trans (g35.mono (by omega))
  have g15 : Below w.heap.size w W := g1.trans (g25.mono (by omega))
  have hbx : W.heap[w.heap.size]? = some (.cells e.cells.toArray 41 (0, 0)) := by rw [g25.block _ (by omega), hw1]; exact heap_at rfl
  have h1 : W.heap[w.heap.size + 1]? = some (.cells #[.string ⟨#[120]⟩] 9 (0, 0)) := by rw [g35.block _ (by omega), hw2]; exact heap_at (by omega)
  have h2 : W.heap[w.heap.size + 1 + 1]? = some (.cells (oneEq (some ⟨w.heap.size + 1, 0, none⟩) 1 e).cells.toArray 43 (0, 0)) := by rw [g45.block _ (by omega), hw3]; exact heap_at (by omega)
  have h3 : W.heap[w.heap.size + 1 + 1 + 1 + 1]? = some (.cells (oneNd (some ⟨w.heap.size + 1, 0, none⟩) (some ⟨w.heap.size + 1 + 1, 0, none⟩) 1 1 e).cells.toArray 37 (0, 0)) := by rw [hW]; exact heap_at (by omega)
  have hlW := lies_below g15 e hl
  have CM := may_prog [_] (some ⟨w.heap.size + 1 + 1 + 1 + 1, 0, none⟩) 1 (one_goods hg hb) W (one_lie hlW h1 h2 h3) (ht.below g15)
  rw [one_may] at CM
  have HO : Hid (exprOut e = if oneMay e = 0 then outOf e.text else (⟨#[]⟩, oneMay e)) := rfl
  have HW0 : Hid (W = ((((w.alloc (.cells e.cells.toArray 41)).alloc (.cells #[.string ⟨#[120]⟩] 9)).alloc (.cells (oneEq (some ⟨w.heap.size + 1, 0, none⟩) 1 e).cells.toArray 43)).alloc (.cells (oneNd (some ⟨w.heap.size + 1, 0, none⟩) (some ⟨w.heap.size + 1 + 1, 0, none⟩) 1 1 e).cells.toArray 37)).alloc (.cells (oneNd (some ⟨w.heap.size + 1, 0, none⟩) (some ⟨w.heap.size + 1 + 1, 0, none⟩) 1 1 e).cells.toArray 37)) := by rw [Hid, hW, hw4, hw3, hw2, hw1]
  have HS5 : Hid _ := s5
  have HG15 : Hid _ := g15
  have CT : oneMay e = 0 → ∀ w', Below W.heap.size W w' → Calls Tryd.prog 10 #[.func (.func 31) #[] #[.pointer (some ⟨w.heap.size, 0, none⟩)]] w' fun x w'' => x = .returned (.tuple #[.string (outOf e.text).1, .int .i64 (outOf e.text).2]) ∧ Below w'.heap.size w' w'' := fun hm w' hb' => by
    obtain ⟨m1, m2, m3⟩ := one_ok hm
    have hlen := text_len _ e (Nat.le_refl _) m1 hg
    have hall : Below w.heap.size w w' := g15.trans (hb'.mono (by omega))
    have hsz : w.heap.size + 5 ≤ w'.heap.size := by have := hb'.size; omega
    refine text_calls _ _ e.text w' (by omega) (enters_of Tryd.func31 (by kernel_rfl) rfl) fun b w1 hw1 hbe => ?_
    have hp : PutsExpr w' b e := putExpr_all (hpow.below hall (by omega)) (htw.below hall (by omega)) (by omega) _ e (Nat.le_refl _) m1 hg (lies_below hall e hl)
    have hbx1 : w1.heap[w.heap.size]? = some (.cells e.cells.toArray 41 (0, 0)) := by
      rw [hw1.bel.block _ (by omega), hb'.block _ (by omega)]
      exact hbx
    refine (expr1_calls e w.heap.size b hp hbx1 hw1 (by simp only [room, List.length_nil]; omega)).mono ?_
    rintro x w2 ⟨rfl, h1, -⟩
    exact ⟨rfl, by simpa using h1⟩
  have HCT : Hid _ := CT
  clear CT hw1 hw2 hw3 hw4 hW s1 s2 s3 s4 s5 g1 g2 g3 g4 g5 g45 g35 g25 g15 hbx h1 h2 h3 hlW hl ht hpow htw hng hg hb
  generalize outOf e.text = out at *
  generalize exprOut e = res at *
  generalize oneMay e = om at *
  obtain ⟨kd, pl, nm, it, dn, a, cap, l⟩ := e
  obtain ⟨n, hn⟩ : ∃ n, n = l.length := ⟨_, rfl⟩
  simp only [Ex.val, Ex.cells, oneEq, oneNd, Eqn.cells, Nd.cells, List.toArray, List.length_cons, List.length_nil, Nat.zero_add, ← hn] at *
  clear hn
  go_enter Tryd.func15, Tryd.ntmps15
  go_wp2_with fail
  rw [← HW0.out]
  refine CM.mono ?_
  rintro x w1 ⟨rfl, hb1⟩
  have HB1 : Hid _ := hb1
  clear CM hb1
  by_cases hm : om = 0
  · have HO1 : Hid (res = out) := by rw [Hid, HO.out, if_pos hm]
    have C2 := HCT.out hm w1 HB1.out
    subst hm
    go_wp2_with fail
    refine C2.mono ?_
    rintro x w2 ⟨rfl, hb2⟩
    have HB2 : Hid _ := hb2
    clear C2 hb2
    go_wp2_with fail
    go_ret2
    exact ⟨by rw [HO1.out]; rfl, HG15.out.trans ((HB1.out.trans (HB2.out.mono HB1.out.size)).mono (by have := HS5.out; omega))⟩
  · have HO1 : Hid (res = (⟨#[]⟩, om)) := by rw [Hid, HO.out, if_neg hm]
    have hm2 : (om == 0) = false := beq_false_of_ne hm
    go_wp2_with fail
    go_ret2
    exact ⟨by rw [HO1.out]; rfl, HG15.out.trans (HB1.out.mono (by have := HS5.out; omega))⟩
end Go.Proofs.YtbahpbinilnfoaaDoor
