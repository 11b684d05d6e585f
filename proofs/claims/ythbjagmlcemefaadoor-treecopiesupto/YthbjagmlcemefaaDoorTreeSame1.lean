/- The program's Same: the pairs of lists that are left, and what one step does. -/
import Derived.Test.YthbjagmlcemefaaDoorTreeMeasure
import Derived.Test.YthbjagmlcemefaaDoorExSame
import Derived.Deep.Onto
namespace Go.Proofs.YthbjagmlcemefaaDoor
open Go.RowKit
open Ex.size Ex.depth Ex.lies Ex.bulk Ex.good Ex.same
attribute [local go_sem] later_size later_cell later_frozen later_setCell later_drew later_drewN later_tape drewN_setCell drewN_alloc drewN_later later_later lt_more lt_more1 lt_more2 lt_more3 lt_more4 lk0_0_1 lk1_0_1 lk2_0_1 lk0_0_2 lk1_0_2 lk2_0_2 lk0_1_2 lk0_0_3 lk1_0_3 lk2_0_3 lk0_1_3 lk0_2_3 lk0_0_4 lk1_0_4 lk2_0_4 lk0_1_4 lk0_2_4 lk0_3_4 lk0_0_5 lk1_0_5 lk2_0_5 lk0_1_5 lk0_2_5 lk0_3_5 lk0_4_5 lk0_0_6 lk1_0_6 lk2_0_6 lk0_1_6 lk0_2_6 lk0_3_6 lk0_4_6 lk0_5_6 lk0_0_7 lk1_0_7 lk2_0_7 lk0_1_7 lk0_2_7 lk0_3_7 lk0_4_7 lk0_5_7 lk0_6_7
structure Pr where
  aa : Option Addr
  ca : Nat
  la : List Ex
  ab : Option Addr
  cb : Nat
  lb : List Ex
def Pr.cells (p : Pr) : List Value := [.slice p.aa p.la.length p.ca, .slice p.ab p.lb.length p.cb]
def prCells : List Pr → List Value
  | [] => []
  | f :: r => f.cells ++ prCells r
def prSizes : List Pr → Nat
  | [] => 0
  | f :: r => sizes f.la + sizes f.lb + prSizes r
theorem prCells_len (fs : List Pr) : (prCells fs).length = fs.length * 2 := by
  induction fs with
  | nil => rfl
  | cons f r ih => simp only [prCells, List.length_append, ih, Pr.cells, List.length_cons, List.length_nil]; omega
theorem prCells_app (a b : List Pr) : prCells (a ++ b) = prCells a ++ prCells b := by
  induction a with
  | nil => rfl
  | cons f r ih => simp only [List.cons_append, prCells, ih, List.append_assoc]
theorem prSizes_app (a b : List Pr) : prSizes (a ++ b) = prSizes a + prSizes b := by
  induction a with
  | nil => simp [prSizes]
  | cons f r ih => simp only [List.cons_append, prSizes, ih]; omega
theorem Tryd.infoPair : (Tryd.prog.info? 69).map (fun i => (i.zero, i.size, i.bytes)) = some (some (.agg #[.slice none 0 0, .slice none 0 0]), 2, 48) := by kernel_rfl
/-- The variable that holds what is left. -/
def SBox (B c : Nat) (ps : List Pr) (w : World) : Prop := ∃ v, w.heap[c]? = some (.cells #[v] 70 (0, 0)) ∧ w.ownsRow B 69 2 v ps.length (prCells ps)
/-- The same, but for places and Args? -/
def v0Block (v : Value) : Option Nat := v.ownBlock
def topEq (x y : Ex) : Bool := (x.kd == y.kd) && (x.nm.toList == y.nm.toList) && (x.it == y.it) && (x.dn == y.dn)
/-- Their Args, if there are some. -/
def pushOf (x y : Ex) : List Pr := if x.args = [] ∧ y.args = [] then [] else [⟨x.ad, x.cap, x.args, y.ad, y.cap, y.args⟩]
theorem row_ne_box {w : World} {B c n : Nat} {v u : Value} {xs : List Value} (h : w.ownsRow B 69 2 v n xs) (hc : w.heap[c]? = some (.cells #[u] 70 (0, 0))) : some c ≠ v.ownBlock := fun e => by
  rcases h.2 with ⟨rfl, _⟩ | ⟨g, cap, cu, rfl, _, hg, _⟩
  · cases e
  · cases e
    rw [hg] at hc
    simp at hc
set_option maxRecDepth 100000 in
set_option maxHeartbeats 6400000 in
theorem same1_calls (x y : Ex) (B c : Nat) (ps : List Pr) (w : World) (hsb : SBox B c ps w) (hB : B ≤ w.heap.size) (hBc : B ≤ c) (hn : ps.length ≤ 2097152) (hx : x.args.length ≤ 1048576) (hy : y.args.length ≤ 1048576) :
    Calls Tryd.prog 42 #[x.val, y.val, .pointer (some ⟨c, 0, none⟩)] w fun r w' => r = .returned (.bool (topEq x y)) ∧ Below B w w' ∧ SBox B c (ps ++ pushOf x y) w' := by
  obtain ⟨i0, hi, hz0', hz1, hz2⟩ := info_parts Tryd.infoPair
  obtain ⟨v, hbx, hown⟩ := hsb
  have hclt := lt_of_block hbx
  have hne := row_ne_box hown hbx
  have hvs : ∃ ao cp, v = .slice ao ps.length cp := by
    rcases hown.2 with ⟨rfl, h0⟩ | ⟨g, cap, cur, rfl, _⟩
    · exact ⟨none, 0, by rw [h0]⟩
    · exact ⟨_, _, rfl⟩
  obtain ⟨ao, cp, rfl⟩ := hvs
  have HT : Hid (topEq x y = ((x.kd == y.kd) && (x.nm.toList == y.nm.toList) && (x.it == y.it) && (x.dn == y.dn))) := rfl
  have HP0 : Hid (x.args = [] ∧ y.args = [] → pushOf x y = []) := fun h => by rw [pushOf, if_pos h]
  have HP1 : Hid (¬ (x.args = [] ∧ y.args = []) → pushOf x y = [⟨x.ad, x.cap, x.args, y.ad, y.cap, y.args⟩]) := fun h => by rw [pushOf, if_neg h]
  generalize topEq x y = tq at *
  generalize pushOf x y = pq at *
  obtain ⟨kd, pl, nm, it, dn, a, cap, l⟩ := x
  obtain ⟨kd', pl', nm', it', dn', a', cap', l'⟩ := y
  simp only at HT HP0 HP1 hx hy
  have HOwn : Hid (w.ownsRow B 69 2 (.slice ao ps.length cp) ps.length (prCells ps)) := hown
  have HBx : Hid _ := hbx
  have HNE : Hid _ := hne
  have HB0 : Hid _ := hB
  have HBc : Hid _ := hBc
  have a1 := cell_of_one hbx
  have f1 := free_of_one hbx
  simp only [Ex.val, Ex.cells, List.toArray]
  clear hown hbx hne hB hBc
  by_cases hp : l = [] ∧ l' = []
  · obtain ⟨rfl, rfl⟩ := hp
    have HPE : Hid (pq = []) := HP0.out ⟨rfl, rfl⟩
    clear HP0 HP1
    go_enter Tryd.func42, Tryd.ntmps42
    go_wp2
    all_goals go_ret
    all_goals refine ⟨same_ret (by rw [HT.out]; simp_all), ((Below.refl _ _).alloc HB0.out _).alloc (by have := HB0.out; simp; omega) _, ?_⟩
    all_goals (rw [HPE.out, List.append_nil]; exact ⟨_, ((Below.heap_alloc _ _ _ (by simp; omega)).trans (Below.heap_alloc _ _ _ hclt)).trans HBx.out, (HOwn.out.alloc _).alloc _⟩)
  · have HPE : Hid (pq = [⟨a, cap, l, a', cap', l'⟩]) := HP1.out hp
    have hpos : 0 < l.length ∨ 0 < l'.length := by
      rcases Nat.eq_zero_or_pos l.length with h | h
      · exact .inr (Nat.pos_of_ne_zero fun h' => hp ⟨List.length_eq_zero_iff.1 h, List.length_eq_zero_iff.1 h'⟩)
      · exact .inl h
    clear HP0 HP1 hp
    generalize hL : l.length = n at *
    generalize hL' : l'.length = n' at *
    have HLn : Hid _ := hL
    have HLn' : Hid _ := hL'
    clear hL hL'
    by_cases hnp : 0 < n
    · obtain ⟨W0, hW0⟩ : ∃ W0 : World, W0 = ((w.alloc (.cells #[.int .u8 kd, .int .i64 pl, .string nm, .int .i64 it, .int .i64 dn, .slice a n cap] 33)).alloc (.cells #[.int .u8 kd', .int .i64 pl', .string nm', .int .i64 it', .int .i64 dn', .slice a' n' cap'] 33)).alloc (.cells #[.slice a n cap, .slice a' n' cap'] 69) := ⟨_, rfl⟩
      have x0 : ∀ j, j < 6 → W0.cell? ⟨w.heap.size, j, none⟩ = (#[.int .u8 kd, .int .i64 pl, .string nm, .int .i64 it, .int .i64 dn, .slice a n cap] : Array Value)[j]? := fun j hj => by
        rw [hW0, World.cell?_alloc_past _ _ _ (by simp; omega), World.cell?_alloc_past _ _ _ (by simp), World.cell?_alloc_at _ _ _ _ rfl]
      have y0 : ∀ j, j < 6 → W0.cell? ⟨w.heap.size + 1, j, none⟩ = (#[.int .u8 kd', .int .i64 pl', .string nm', .int .i64 it', .int .i64 dn', .slice a' n' cap'] : Array Value)[j]? := fun j hj => by
        rw [hW0, World.cell?_alloc_past _ _ _ (by simp), World.cell?_alloc_at _ _ _ _ (by simp)]
      have z0 : W0.heap[c]? = some (.cells #[.slice ao ps.length cp] 70 (0, 0)) := by
        rw [hW0, Below.heap_alloc _ _ _ (by simp; omega), Below.heap_alloc _ _ _ (by simp; omega), Below.heap_alloc _ _ _ hclt]
        exact HBx.out
      have hbW : Below B w W0 := by
        rw [hW0]
        exact (((Below.refl _ _).alloc HB0.out _).alloc (by have := HB0.out; simp; omega) _).alloc (by have := HB0.out; simp; omega) _
      have hsW : W0.heap.size = w.heap.size + 3 := by rw [hW0]; simp
      have hoW : W0.ownsRow B 69 2 (.slice ao ps.length cp) ps.length (prCells ps) := by rw [hW0]; exact ((HOwn.out.alloc _).alloc _).alloc _
      have hnw : ∀ j u, ([.slice a n cap, .slice a' n' cap'] : List Value)[j]? = some u → W0.cell? ((⟨w.heap.size + 2, 0, none⟩ : Addr).add j) = some u := fun j u hj => by
        rw [addr_add, Nat.zero_add, hW0, World.cell?_alloc_at _ _ _ _ (by simp)]
        simpa using hj
      have hlow : ∀ k, (Value.slice ao ps.length cp).ownBlock = some k → k < w.heap.size := fun k hk => (HOwn.out.lt k hk).2
      have HX0 : Hid _ := x0
      have HY0 : Hid _ := y0
      have HZ0 : Hid _ := z0
      have HBW : Hid _ := hbW
      have HSW : Hid _ := hsW
      have HOW : Hid (W0.ownsRow B 69 2 (.slice ao ps.length cp) ps.length (prCells ps)) := hoW
      have HNW : Hid _ := hnw
      have HLow : Hid _ := hlow
      have HW0 : Hid _ := hW0
      clear x0 y0 z0 hbW hsW hoW hnw hlow hW0 HOwn HBx
      go_enter Tryd.func42, Tryd.ntmps42
      go_wp2_with (at_builtin; rw [← HW0.out]; refine wpList_append_lies _ rfl _ _ 70 rfl B 69 i0 _ 2 48 Tryd.underlying70 hi hz0' hz1 hz2 rfl (by decide) _ _ _ rfl HOW.out ⟨w.heap.size + 2, 0, none⟩ 1 1 [.slice a n cap, .slice a' n' cap'] rfl rfl HNW.out (fun u hu => by simp at hu; rcases hu with rfl | rfl <;> rfl) (by decide) (by unfold maxLen; omega) (by omega) (by have := HSW.out; have := HB0.out; omega) _ rfl ?_)
      intro g cap3 w1 hown1 hgrow hat hlt3
      have hq : ∀ k, w.heap.size ≤ k → some k ≠ (Value.slice ao ps.length cp).ownBlock := fun k hk e => by have := HLow.out k e.symm; omega
      have cx : ∀ j u, j < 6 → (#[.int .u8 kd, .int .i64 pl, .string nm, .int .i64 it, .int .i64 dn, .slice a n cap] : Array Value)[j]? = some u → w1.cell? ⟨w.heap.size, j, none⟩ = some u := fun j u hj hu => hgrow.cell ((HX0.out j hj).trans hu) (hq _ (Nat.le_refl _))
      have cy : ∀ j u, j < 6 → (#[.int .u8 kd', .int .i64 pl', .string nm', .int .i64 it', .int .i64 dn', .slice a' n' cap'] : Array Value)[j]? = some u → w1.cell? ⟨w.heap.size + 1, j, none⟩ = some u := fun j u hj hu => hgrow.cell ((HY0.out j hj).trans hu) (hq (w.heap.size + 1) (Nat.le_succ _))
      have x0 := cx 0 _ (by omega) rfl
      have x2 := cx 2 _ (by omega) rfl
      have x3 := cx 3 _ (by omega) rfl
      have x4 := cx 4 _ (by omega) rfl
      have y0 := cy 0 _ (by omega) rfl
      have y2 := cy 2 _ (by omega) rfl
      have y3 := cy 3 _ (by omega) rfl
      have y4 := cy 4 _ (by omega) rfl
      have hz := (hgrow.block c (lt_of_block HZ0.out) HNE.out).trans HZ0.out
      have b1 := cell_of_one hz
      have b2 := free_of_one hz
      have hne1 : ¬ w.heap.size = c := by omega
      have hne2 : ¬ w.heap.size + 1 = c := by omega
      have hcne1 : ¬ c = w.heap.size := by omega
      have hcne2 : ¬ c = w.heap.size + 1 := by omega
      have HZ : Hid _ := hz
      have hbl : Below B w w1 := HBW.out.grown hgrow (by have := HSW.out; have := HB0.out; omega) (fun k hk => (HOW.out.lt k hk).1)
      have HBL : Hid _ := hbl
      have HO1 : Hid (w1.ownsRow B 69 2 (.slice (some ⟨g, 0, none⟩) (ps.length + 1) cap3) (ps.length + 1) (prCells ps ++ [.slice a n cap, .slice a' n' cap'])) := hown1
      have HNG : Hid (some c ≠ (Value.slice (some ⟨g, 0, none⟩) (ps.length + 1) cap3).ownBlock) := row_ne_box hown1 hz
      have HCB : Hid (B ≤ c ∨ c < B) := by rw [Hid]; omega
      clear hown1 hgrow hat hlt3 hq cx cy hz hbl HW0 HX0 HY0 HZ0 HNW HOW HLow a1 f1
      go_wp2
      all_goals go_ret
      all_goals refine ⟨same_ret (by rw [HT.out]; simp_all), HBL.out.setCell HBc.out _, ?_⟩
      all_goals (rw [HPE.out]; exact ⟨_, one_setCell HZ.out, ownsRow_setCell_other (by rw [prCells_app, List.length_append]; have e1 := HLn.out; have e2 := HLn'.out; simpa [prCells, Pr.cells, e1, e2] using HO1.out) (fun e => HNG.out e.symm) _⟩)
    · have hn0 : n = 0 := by omega
      subst hn0
      have hnp' : 0 < n' := by omega
      obtain ⟨W0, hW0⟩ : ∃ W0 : World, W0 = ((w.alloc (.cells #[.int .u8 kd, .int .i64 pl, .string nm, .int .i64 it, .int .i64 dn, .slice a 0 cap] 33)).alloc (.cells #[.int .u8 kd', .int .i64 pl', .string nm', .int .i64 it', .int .i64 dn', .slice a' n' cap'] 33)).alloc (.cells #[.slice a 0 cap, .slice a' n' cap'] 69) := ⟨_, rfl⟩
      have x0 : ∀ j, j < 6 → W0.cell? ⟨w.heap.size, j, none⟩ = (#[.int .u8 kd, .int .i64 pl, .string nm, .int .i64 it, .int .i64 dn, .slice a 0 cap] : Array Value)[j]? := fun j hj => by
        rw [hW0, World.cell?_alloc_past _ _ _ (by simp; omega), World.cell?_alloc_past _ _ _ (by simp), World.cell?_alloc_at _ _ _ _ rfl]
      have y0 : ∀ j, j < 6 → W0.cell? ⟨w.heap.size + 1, j, none⟩ = (#[.int .u8 kd', .int .i64 pl', .string nm', .int .i64 it', .int .i64 dn', .slice a' n' cap'] : Array Value)[j]? := fun j hj => by
        rw [hW0, World.cell?_alloc_past _ _ _ (by simp), World.cell?_alloc_at _ _ _ _ (by simp)]
      have z0 : W0.heap[c]? = some (.cells #[.slice ao ps.length cp] 70 (0, 0)) := by
        rw [hW0, Below.heap_alloc _ _ _ (by simp; omega), Below.heap_alloc _ _ _ (by simp; omega), Below.heap_alloc _ _ _ hclt]
        exact HBx.out
      have hbW : Below B w W0 := by
        rw [hW0]
        exact (((Below.refl _ _).alloc HB0.out _).alloc (by have := HB0.out; simp; omega) _).alloc (by have := HB0.out; simp; omega) _
      have hsW : W0.heap.size = w.heap.size + 3 := by rw [hW0]; simp
      have hoW : W0.ownsRow B 69 2 (.slice ao ps.length cp) ps.length (prCells ps) := by rw [hW0]; exact ((HOwn.out.alloc _).alloc _).alloc _
      have hnw : ∀ j u, ([.slice a 0 cap, .slice a' n' cap'] : List Value)[j]? = some u → W0.cell? ((⟨w.heap.size + 2, 0, none⟩ : Addr).add j) = some u := fun j u hj => by
        rw [addr_add, Nat.zero_add, hW0, World.cell?_alloc_at _ _ _ _ (by simp)]
        simpa using hj
      have hlow : ∀ k, (Value.slice ao ps.length cp).ownBlock = some k → k < w.heap.size := fun k hk => (HOwn.out.lt k hk).2
      have HX0 : Hid _ := x0
      have HY0 : Hid _ := y0
      have HZ0 : Hid _ := z0
      have HBW : Hid _ := hbW
      have HSW : Hid _ := hsW
      have HOW : Hid (W0.ownsRow B 69 2 (.slice ao ps.length cp) ps.length (prCells ps)) := hoW
      have HNW : Hid _ := hnw
      have HLow : Hid _ := hlow
      have HW0 : Hid _ := hW0
      clear x0 y0 z0 hbW hsW hoW hnw hlow hW0 HOwn HBx
      go_enter Tryd.func42, Tryd.ntmps42
      go_wp2_with (at_builtin; rw [← HW0.out]; refine wpList_append_lies _ rfl _ _ 70 rfl B 69 i0 _ 2 48 Tryd.underlying70 hi hz0' hz1 hz2 rfl (by decide) _ _ _ rfl HOW.out ⟨w.heap.size + 2, 0, none⟩ 1 1 [.slice a 0 cap, .slice a' n' cap'] rfl rfl HNW.out (fun u hu => by simp at hu; rcases hu with rfl | rfl <;> rfl) (by decide) (by unfold maxLen; omega) (by omega) (by have := HSW.out; have := HB0.out; omega) _ rfl ?_)
      intro g cap3 w1 hown1 hgrow hat hlt3
      have hq : ∀ k, w.heap.size ≤ k → some k ≠ (Value.slice ao ps.length cp).ownBlock := fun k hk e => by have := HLow.out k e.symm; omega
      have cx : ∀ j u, j < 6 → (#[.int .u8 kd, .int .i64 pl, .string nm, .int .i64 it, .int .i64 dn, .slice a 0 cap] : Array Value)[j]? = some u → w1.cell? ⟨w.heap.size, j, none⟩ = some u := fun j u hj hu => hgrow.cell ((HX0.out j hj).trans hu) (hq _ (Nat.le_refl _))
      have cy : ∀ j u, j < 6 → (#[.int .u8 kd', .int .i64 pl', .string nm', .int .i64 it', .int .i64 dn', .slice a' n' cap'] : Array Value)[j]? = some u → w1.cell? ⟨w.heap.size + 1, j, none⟩ = some u := fun j u hj hu => hgrow.cell ((HY0.out j hj).trans hu) (hq (w.heap.size + 1) (Nat.le_succ _))
      have x0 := cx 0 _ (by omega) rfl
      have x2 := cx 2 _ (by omega) rfl
      have x3 := cx 3 _ (by omega) rfl
      have x4 := cx 4 _ (by omega) rfl
      have y0 := cy 0 _ (by omega) rfl
      have y2 := cy 2 _ (by omega) rfl
      have y3 := cy 3 _ (by omega) rfl
      have y4 := cy 4 _ (by omega) rfl
      have hz := (hgrow.block c (lt_of_block HZ0.out) HNE.out).trans HZ0.out
      have b1 := cell_of_one hz
      have b2 := free_of_one hz
      have hne1 : ¬ w.heap.size = c := by omega
      have hne2 : ¬ w.heap.size + 1 = c := by omega
      have hcne1 : ¬ c = w.heap.size := by omega
      have hcne2 : ¬ c = w.heap.size + 1 := by omega
      have HZ : Hid _ := hz
      have hbl : Below B w w1 := HBW.out.grown hgrow (by have := HSW.out; have := HB0.out; omega) (fun k hk => (HOW.out.lt k hk).1)
      have HBL : Hid _ := hbl
      have HO1 : Hid (w1.ownsRow B 69 2 (.slice (some ⟨g, 0, none⟩) (ps.length + 1) cap3) (ps.length + 1) (prCells ps ++ [.slice a 0 cap, .slice a' n' cap'])) := hown1
      have HNG : Hid (some c ≠ (Value.slice (some ⟨g, 0, none⟩) (ps.length + 1) cap3).ownBlock) := row_ne_box hown1 hz
      have HCB : Hid (B ≤ c ∨ c < B) := by rw [Hid]; omega
      clear hown1 hgrow hat hlt3 hq cx cy hz hbl HW0 HX0 HY0 HZ0 HNW HOW HLow a1 f1
      go_wp2
      all_goals go_ret
      all_goals refine ⟨same_ret (by rw [HT.out]; simp_all), HBL.out.setCell HBc.out _, ?_⟩
      all_goals (rw [HPE.out]; exact ⟨_, one_setCell HZ.out, ownsRow_setCell_other (by rw [prCells_app, List.length_append]; have e1 := HLn.out; have e2 := HLn'.out; simpa [prCells, Pr.cells, e1, e2] using HO1.out) (fun e => HNG.out e.symm) _⟩)
end Go.Proofs.YthbjagmlcemefaaDoor
