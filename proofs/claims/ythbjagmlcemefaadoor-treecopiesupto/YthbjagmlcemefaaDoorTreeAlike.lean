/- The program's alike: two lists told alike, at five types (written by gen_alike.py). -/
import Derived.Test.YthbjagmlcemefaaDoorTreeProgs
import Derived.Test.YthbjagmlcemefaaDoorTreeMeasure
import Derived.Deep.RegionHeld3
namespace Go.Proofs.YthbjagmlcemefaaDoor
open Go.RowKit
open Ex.size Ex.depth Ex.lies Ex.bulk Ex.good
attribute [local go_sem] later_size later_cell later_frozen later_setCell later_drew later_drewN later_tape drewN_setCell drewN_alloc drewN_later later_later lt_more lt_more1 lt_more2 lt_more3 lt_more4 lk0_0_1 lk1_0_1 lk2_0_1 lk0_0_2 lk1_0_2 lk2_0_2 lk0_1_2 lk0_0_3 lk1_0_3 lk2_0_3 lk0_1_3 lk0_2_3 lk0_0_4 lk1_0_4 lk2_0_4 lk0_1_4 lk0_2_4 lk0_3_4 lk0_0_5 lk1_0_5 lk2_0_5 lk0_1_5 lk0_2_5 lk0_3_5 lk0_4_5 lk0_0_6 lk1_0_6 lk2_0_6 lk0_1_6 lk0_2_6 lk0_3_6 lk0_4_6 lk0_5_6 lk0_0_7 lk1_0_7 lk2_0_7 lk0_1_7 lk0_2_7 lk0_3_7 lk0_4_7 lk0_5_7 lk0_6_7
/-- What alike leaves. -/
def AlikePost (n n' : Nat) (I : Nat → World → Prop) (F : World → Prop) (r : Ending) (w' : World) : Prop := ∃ q, r = .returned (.bool q) ∧ (q = true → n = n' ∧ I n w') ∧ (q = false → (n ≠ n' ∧ I 0 w') ∨ F w')
/-- A slice of these lies where it says, whatever holds. -/
def lieExpr (sa : Option Addr) (l : List Ex) (I : Nat → World → Prop) : Prop := l ≠ [] → ∃ b o, sa = some ⟨b, o, none⟩ ∧ ∀ k w, I k w → ∀ i (h : i < l.length) j, j < 6 → w.cell? ⟨b, o + i * 6 + j, none⟩ = (l[i].cells)[j]?
set_option maxRecDepth 100000 in
set_option maxHeartbeats 3200000 in
theorem alikeExpr_calls (fn : Nat) (caps : Array Value) (hent : ∀ args w, (callFunc fn args).run Tryd.prog w = .ok (.enter fn args) w) (la lb : List Ex) (aa ab : Option Addr) (ca cb : Nat) (w : World) (I : Nat → World → Prop) (F : World → Prop)
    (hla : lieExpr aa la I) (hlb : lieExpr ab lb I) (hdraw : ∀ k w q, I k w → I k (w.drewN q))
    (hstep : ∀ k (h : k < la.length) (h' : k < lb.length) w, I k w → Calls Tryd.prog fn (#[la[k].val, lb[k].val] ++ caps) w fun r w2 => ∃ q, r = .returned (.bool q) ∧ (q = true → I (k + 1) w2) ∧ (q = false → F w2))
    (h0 : I 0 w) (hn : la.length ≤ 1048576) (hn' : lb.length ≤ 1048576) :
    Calls Tryd.prog 43 #[.slice aa la.length ca, .slice ab lb.length cb, .func (.func fn) #[] caps] w fun r w' => AlikePost la.length lb.length I F r w' := by
  obtain ⟨n, hN⟩ : ∃ n, n = la.length := ⟨_, rfl⟩
  obtain ⟨n', hN'⟩ : ∃ n', n' = lb.length := ⟨_, rfl⟩
  rw [← hN] at hn
  rw [← hN'] at hn'
  have HP : Hid (∀ r w', AlikePost n n' I F r w' → AlikePost la.length lb.length I F r w') := fun r w' h => by rw [← hN, ← hN']; exact h
  rw [← hN, ← hN']
  have HN : Hid _ := hN
  have HN' : Hid _ := hN'
  have HLa : Hid (lieExpr aa la I) := hla
  have HLb : Hid (lieExpr ab lb I) := hlb
  have HD : Hid _ := hdraw
  have HSt : Hid _ := hstep
  have H0 : Hid _ := h0
  clear hN hN' hla hlb hdraw hstep h0
  by_cases hne : n = n'
  · subst hne
    go_enter Tryd.func43, Tryd.ntmps43
    go_wp2_with fail
    go_loopw [15] (fun i wr => ∃ k : Nat, k ≤ n ∧ i = .int .i64 k ∧ Hid (I k wr)) (fun i _ => n - (intOf i).toNat)
    case atStart => exact ⟨0, by omega, rfl, H0⟩
    case round =>
      obtain ⟨k, hk, rfl, HI⟩ := hrel
      by_cases hlt : k < n
      · have hka : k < la.length := by rw [← HN.out]; exact hlt
        have hkb : k < lb.length := by rw [← HN'.out]; exact hlt
        obtain ⟨ba, oa, rfl, hA⟩ := HLa.out (by intro h; rw [h] at hka; simp at hka)
        obtain ⟨bb, ob, rfl, hB⟩ := HLb.out (by intro h; rw [h] at hkb; simp at hkb)
        have hA := hA k wr HI.out k hka
        have hB := hB k wr HI.out k hkb
        have CC := HSt.out k hka hkb wr.drew (HD.out k wr 1 HI.out)
        generalize la[k] = x at hA CC
        generalize lb[k] = y at hB CC
        obtain ⟨kd1, pl1, nm1, it1, dn1, a1, cap1, l1⟩ := x
        obtain ⟨kd2, pl2, nm2, it2, dn2, a2, cap2, l2⟩ := y
        have f0 : wr.cell? ⟨ba, oa + k * 6, none⟩ = some (.int .u8 kd1) := hA 0 (by omega)
        have f1 : wr.cell? ⟨ba, oa + k * 6 + 1, none⟩ = some (.int .i64 pl1) := hA 1 (by omega)
        have f2 : wr.cell? ⟨ba, oa + k * 6 + 2, none⟩ = some (.string nm1) := hA 2 (by omega)
        have f3 : wr.cell? ⟨ba, oa + k * 6 + 3, none⟩ = some (.int .i64 it1) := hA 3 (by omega)
        have f4 : wr.cell? ⟨ba, oa + k * 6 + 4, none⟩ = some (.int .i64 dn1) := hA 4 (by omega)
        have f5 : wr.cell? ⟨ba, oa + k * 6 + 5, none⟩ = some (.slice a1 l1.length cap1) := hA 5 (by omega)
        have g0 : wr.cell? ⟨bb, ob + k * 6, none⟩ = some (.int .u8 kd2) := hB 0 (by omega)
        have g1 : wr.cell? ⟨bb, ob + k * 6 + 1, none⟩ = some (.int .i64 pl2) := hB 1 (by omega)
        have g2 : wr.cell? ⟨bb, ob + k * 6 + 2, none⟩ = some (.string nm2) := hB 2 (by omega)
        have g3 : wr.cell? ⟨bb, ob + k * 6 + 3, none⟩ = some (.int .i64 it2) := hB 3 (by omega)
        have g4 : wr.cell? ⟨bb, ob + k * 6 + 4, none⟩ = some (.int .i64 dn2) := hB 4 (by omega)
        have g5 : wr.cell? ⟨bb, ob + k * 6 + 5, none⟩ = some (.slice a2 l2.length cap2) := hB 5 (by omega)
        simp only [Ex.val, Ex.cells, List.toArray] at CC
        clear hA hB
        go_wp2_with fail
        go_region_with (refine CC.mono ?_; rintro r w2 ⟨q, rfl, hq1, hq2⟩; have HQ1 : Hid _ := hq1; have HQ2 : Hid _ := hq2; clear hq1 hq2)
        all_goals clear CC f0 g0 f1 g1 f2 g2 f3 g3 f4 g4 f5 g5
        all_goals
          (cases q
           · go_wp2_with fail
             go_ret
             exact ⟨false, rfl, fun h => (by simp at h), fun _ => .inr (HQ2.out (by first | rfl | trivial))⟩
           · go_wp2_with fail
             go_roundw
             case rel => exact ⟨k + 1, by omega, by go_num, HQ1.out (by first | rfl | trivial)⟩
             case measure => simp [intOf]; omega)
      · obtain rfl : k = n := by omega
        go_wp2_with fail
        go_ret
        exact ⟨true, rfl, fun _ => ⟨rfl, HI.out⟩, fun h => by simp at h⟩
  · have hne' : ¬ (n : Int) = (n' : Int) := by omega
    go_enter Tryd.func43, Tryd.ntmps43
    go_wp2_with fail
    go_ret
    exact ⟨false, rfl, fun h => by simp at h, fun _ => .inl ⟨hne, H0.out⟩⟩
/-- A slice of these lies where it says, whatever holds. -/
def lieParam (sa : Option Addr) (l : List Pm) (I : Nat → World → Prop) : Prop := l ≠ [] → ∃ b o, sa = some ⟨b, o, none⟩ ∧ ∀ k w, I k w → ∀ i (h : i < l.length) j, j < 7 → w.cell? ⟨b, o + i * 7 + j, none⟩ = (l[i].cells)[j]?
set_option maxRecDepth 100000 in
set_option maxHeartbeats 3200000 in
theorem alikeParam_calls (fn : Nat) (caps : Array Value) (hent : ∀ args w, (callFunc fn args).run Tryd.prog w = .ok (.enter fn args) w) (la lb : List Pm) (aa ab : Option Addr) (ca cb : Nat) (w : World) (I : Nat → World → Prop) (F : World → Prop)
    (hla : lieParam aa la I) (hlb : lieParam ab lb I) (hdraw : ∀ k w q, I k w → I k (w.drewN q))
    (hstep : ∀ k (h : k < la.length) (h' : k < lb.length) w, I k w → Calls Tryd.prog fn (#[la[k].val, lb[k].val] ++ caps) w fun r w2 => ∃ q, r = .returned (.bool q) ∧ (q = true → I (k + 1) w2) ∧ (q = false → F w2))
    (h0 : I 0 w) (hn : la.length ≤ 1048576) (hn' : lb.length ≤ 1048576) :
    Calls Tryd.prog 66 #[.slice aa la.length ca, .slice ab lb.length cb, .func (.func fn) #[] caps] w fun r w' => AlikePost la.length lb.length I F r w' := by
  obtain ⟨n, hN⟩ : ∃ n, n = la.length := ⟨_, rfl⟩
  obtain ⟨n', hN'⟩ : ∃ n', n' = lb.length := ⟨_, rfl⟩
  rw [← hN] at hn
  rw [← hN'] at hn'
  have HP : Hid (∀ r w', AlikePost n n' I F r w' → AlikePost la.length lb.length I F r w') := fun r w' h => by rw [← hN, ← hN']; exact h
  rw [← hN, ← hN']
  have HN : Hid _ := hN
  have HN' : Hid _ := hN'
  have HLa : Hid (lieParam aa la I) := hla
  have HLb : Hid (lieParam ab lb I) := hlb
  have HD : Hid _ := hdraw
  have HSt : Hid _ := hstep
  have H0 : Hid _ := h0
  clear hN hN' hla hlb hdraw hstep h0
  by_cases hne : n = n'
  · subst hne
    go_enter Tryd.func66, Tryd.ntmps66
    go_wp2_with fail
    go_loopw [15] (fun i wr => ∃ k : Nat, k ≤ n ∧ i = .int .i64 k ∧ Hid (I k wr)) (fun i _ => n - (intOf i).toNat)
    case atStart => exact ⟨0, by omega, rfl, H0⟩
    case round =>
      obtain ⟨k, hk, rfl, HI⟩ := hrel
      by_cases hlt : k < n
      · have hka : k < la.length := by rw [← HN.out]; exact hlt
        have hkb : k < lb.length := by rw [← HN'.out]; exact hlt
        obtain ⟨ba, oa, rfl, hA⟩ := HLa.out (by intro h; rw [h] at hka; simp at hka)
        obtain ⟨bb, ob, rfl, hB⟩ := HLb.out (by intro h; rw [h] at hkb; simp at hkb)
        have hA := hA k wr HI.out k hka
        have hB := hB k wr HI.out k hkb
        have CC := HSt.out k hka hkb wr.drew (HD.out k wr 1 HI.out)
        generalize la[k] = x at hA CC
        generalize lb[k] = y at hB CC
        obtain ⟨nm1, ty1, pl1, rt1, pd1, st1, du1⟩ := x
        obtain ⟨nm2, ty2, pl2, rt2, pd2, st2, du2⟩ := y
        have f0 : wr.cell? ⟨ba, oa + k * 7, none⟩ = some (.string nm1) := hA 0 (by omega)
        have f1 : wr.cell? ⟨ba, oa + k * 7 + 1, none⟩ = some (.int .u8 ty1) := hA 1 (by omega)
        have f2 : wr.cell? ⟨ba, oa + k * 7 + 2, none⟩ = some (.int .i64 pl1) := hA 2 (by omega)
        have f3 : wr.cell? ⟨ba, oa + k * 7 + 3, none⟩ = some (.bool rt1) := hA 3 (by omega)
        have f4 : wr.cell? ⟨ba, oa + k * 7 + 4, none⟩ = some (.int .i64 pd1) := hA 4 (by omega)
        have f5 : wr.cell? ⟨ba, oa + k * 7 + 5, none⟩ = some (.int .i64 st1) := hA 5 (by omega)
        have f6 : wr.cell? ⟨ba, oa + k * 7 + 6, none⟩ = some (.int .i64 du1) := hA 6 (by omega)
        have g0 : wr.cell? ⟨bb, ob + k * 7, none⟩ = some (.string nm2) := hB 0 (by omega)
        have g1 : wr.cell? ⟨bb, ob + k * 7 + 1, none⟩ = some (.int .u8 ty2) := hB 1 (by omega)
        have g2 : wr.cell? ⟨bb, ob + k * 7 + 2, none⟩ = some (.int .i64 pl2) := hB 2 (by omega)
        have g3 : wr.cell? ⟨bb, ob + k * 7 + 3, none⟩ = some (.bool rt2) := hB 3 (by omega)
        have g4 : wr.cell? ⟨bb, ob + k * 7 + 4, none⟩ = some (.int .i64 pd2) := hB 4 (by omega)
        have g5 : wr.cell? ⟨bb, ob + k * 7 + 5, none⟩ = some (.int .i64 st2) := hB 5 (by omega)
        have g6 : wr.cell? ⟨bb, ob + k * 7 + 6, none⟩ = some (.int .i64 du2) := hB 6 (by omega)
        simp only [Pm.val, Pm.cells, List.toArray] at CC
        clear hA hB
        go_wp2_with fail
        go_region_with (refine CC.mono ?_; rintro r w2 ⟨q, rfl, hq1, hq2⟩; have HQ1 : Hid _ := hq1; have HQ2 : Hid _ := hq2; clear hq1 hq2)
        all_goals clear CC f0 g0 f1 g1 f2 g2 f3 g3 f4 g4 f5 g5 f6 g6
        all_goals
          (cases q
           · go_wp2_with fail
             go_ret
             exact ⟨false, rfl, fun h => (by simp at h), fun _ => .inr (HQ2.out (by first | rfl | trivial))⟩
           · go_wp2_with fail
             go_roundw
             case rel => exact ⟨k + 1, by omega, by go_num, HQ1.out (by first | rfl | trivial)⟩
             case measure => simp [intOf]; omega)
      · obtain rfl : k = n := by omega
        go_wp2_with fail
        go_ret
        exact ⟨true, rfl, fun _ => ⟨rfl, HI.out⟩, fun h => by simp at h⟩
  · have hne' : ¬ (n : Int) = (n' : Int) := by omega
    go_enter Tryd.func66, Tryd.ntmps66
    go_wp2_with fail
    go_ret
    exact ⟨false, rfl, fun h => by simp at h, fun _ => .inl ⟨hne, H0.out⟩⟩
/-- A slice of these lies where it says, whatever holds. -/
def lieEq (sa : Option Addr) (l : List Eqn) (I : Nat → World → Prop) : Prop := l ≠ [] → ∃ b o, sa = some ⟨b, o, none⟩ ∧ ∀ k w, I k w → ∀ i (h : i < l.length) j, j < 8 → w.cell? ⟨b, o + i * 8 + j, none⟩ = (l[i].cells)[j]?
set_option maxRecDepth 100000 in
set_option maxHeartbeats 3200000 in
theorem alikeEq_calls (fn : Nat) (caps : Array Value) (hent : ∀ args w, (callFunc fn args).run Tryd.prog w = .ok (.enter fn args) w) (la lb : List Eqn) (aa ab : Option Addr) (ca cb : Nat) (w : World) (I : Nat → World → Prop) (F : World → Prop)
    (hla : lieEq aa la I) (hlb : lieEq ab lb I) (hdraw : ∀ k w q, I k w → I k (w.drewN q))
    (hstep : ∀ k (h : k < la.length) (h' : k < lb.length) w, I k w → Calls Tryd.prog fn (#[la[k].val, lb[k].val] ++ caps) w fun r w2 => ∃ q, r = .returned (.bool q) ∧ (q = true → I (k + 1) w2) ∧ (q = false → F w2))
    (h0 : I 0 w) (hn : la.length ≤ 1048576) (hn' : lb.length ≤ 1048576) :
    Calls Tryd.prog 68 #[.slice aa la.length ca, .slice ab lb.length cb, .func (.func fn) #[] caps] w fun r w' => AlikePost la.length lb.length I F r w' := by
  obtain ⟨n, hN⟩ : ∃ n, n = la.length := ⟨_, rfl⟩
  obtain ⟨n', hN'⟩ : ∃ n', n' = lb.length := ⟨_, rfl⟩
  rw [← hN] at hn
  rw [← hN'] at hn'
  have HP : Hid (∀ r w', AlikePost n n' I F r w' → AlikePost la.length lb.length I F r w') := fun r w' h => by rw [← hN, ← hN']; exact h
  rw [← hN, ← hN']
  have HN : Hid _ := hN
  have HN' : Hid _ := hN'
  have HLa : Hid (lieEq aa la I) := hla
  have HLb : Hid (lieEq ab lb I) := hlb
  have HD : Hid _ := hdraw
  have HSt : Hid _ := hstep
  have H0 : Hid _ := h0
  clear hN hN' hla hlb hdraw hstep h0
  by_cases hne : n = n'
  · subst hne
    go_enter Tryd.func68, Tryd.ntmps68
    go_wp2_with fail
    go_loopw [15] (fun i wr => ∃ k : Nat, k ≤ n ∧ i = .int .i64 k ∧ Hid (I k wr)) (fun i _ => n - (intOf i).toNat)
    case atStart => exact ⟨0, by omega, rfl, H0⟩
    case round =>
      obtain ⟨k, hk, rfl, HI⟩ := hrel
      by_cases hlt : k < n
      · have hka : k < la.length := by rw [← HN.out]; exact hlt
        have hkb : k < lb.length := by rw [← HN'.out]; exact hlt
        obtain ⟨ba, oa, rfl, hA⟩ := HLa.out (by intro h; rw [h] at hka; simp at hka)
        obtain ⟨bb, ob, rfl, hB⟩ := HLb.out (by intro h; rw [h] at hkb; simp at hkb)
        have hA := hA k wr HI.out k hka
        have hB := hB k wr HI.out k hkb
        have CC := HSt.out k hka hkb wr.drew (HD.out k wr 1 HI.out)
        generalize la[k] = x at hA CC
        generalize lb[k] = y at hB CC
        obtain ⟨na1, nc1, ns1, pq1, ⟨kd1, pl1, nm1, it1, dn1, a1, cap1, l1⟩⟩ := x
        obtain ⟨na2, nc2, ns2, pq2, ⟨kd2, pl2, nm2, it2, dn2, a2, cap2, l2⟩⟩ := y
        have f0 : wr.cell? ⟨ba, oa + k * 8, none⟩ = some (.slice na1 ns1.length nc1) := hA 0 (by omega)
        have f1 : wr.cell? ⟨ba, oa + k * 8 + 1, none⟩ = some (.int .i64 pq1) := hA 1 (by omega)
        have f2 : wr.cell? ⟨ba, oa + k * 8 + 2, none⟩ = some (.int .u8 kd1) := hA 2 (by omega)
        have f3 : wr.cell? ⟨ba, oa + k * 8 + 3, none⟩ = some (.int .i64 pl1) := hA 3 (by omega)
        have f4 : wr.cell? ⟨ba, oa + k * 8 + 4, none⟩ = some (.string nm1) := hA 4 (by omega)
        have f5 : wr.cell? ⟨ba, oa + k * 8 + 5, none⟩ = some (.int .i64 it1) := hA 5 (by omega)
        have f6 : wr.cell? ⟨ba, oa + k * 8 + 6, none⟩ = some (.int .i64 dn1) := hA 6 (by omega)
        have f7 : wr.cell? ⟨ba, oa + k * 8 + 7, none⟩ = some (.slice a1 l1.length cap1) := hA 7 (by omega)
        have g0 : wr.cell? ⟨bb, ob + k * 8, none⟩ = some (.slice na2 ns2.length nc2) := hB 0 (by omega)
        have g1 : wr.cell? ⟨bb, ob + k * 8 + 1, none⟩ = some (.int .i64 pq2) := hB 1 (by omega)
        have g2 : wr.cell? ⟨bb, ob + k * 8 + 2, none⟩ = some (.int .u8 kd2) := hB 2 (by omega)
        have g3 : wr.cell? ⟨bb, ob + k * 8 + 3, none⟩ = some (.int .i64 pl2) := hB 3 (by omega)
        have g4 : wr.cell? ⟨bb, ob + k * 8 + 4, none⟩ = some (.string nm2) := hB 4 (by omega)
        have g5 : wr.cell? ⟨bb, ob + k * 8 + 5, none⟩ = some (.int .i64 it2) := hB 5 (by omega)
        have g6 : wr.cell? ⟨bb, ob + k * 8 + 6, none⟩ = some (.int .i64 dn2) := hB 6 (by omega)
        have g7 : wr.cell? ⟨bb, ob + k * 8 + 7, none⟩ = some (.slice a2 l2.length cap2) := hB 7 (by omega)
        simp only [Eqn.val, Eqn.cells, Ex.cells, List.toArray] at CC
        clear hA hB
        go_wp2_with fail
        go_region_with (refine CC.mono ?_; rintro r w2 ⟨q, rfl, hq1, hq2⟩; have HQ1 : Hid _ := hq1; have HQ2 : Hid _ := hq2; clear hq1 hq2)
        all_goals clear CC f0 g0 f1 g1 f2 g2 f3 g3 f4 g4 f5 g5 f6 g6 f7 g7
        all_goals
          (cases q
           · go_wp2_with fail
             go_ret
             exact ⟨false, rfl, fun h => (by simp at h), fun _ => .inr (HQ2.out (by first | rfl | trivial))⟩
           · go_wp2_with fail
             go_roundw
             case rel => exact ⟨k + 1, by omega, by go_num, HQ1.out (by first | rfl | trivial)⟩
             case measure => simp [intOf]; omega)
      · obtain rfl : k = n := by omega
        go_wp2_with fail
        go_ret
        exact ⟨true, rfl, fun _ => ⟨rfl, HI.out⟩, fun h => by simp at h⟩
  · have hne' : ¬ (n : Int) = (n' : Int) := by omega
    go_enter Tryd.func68, Tryd.ntmps68
    go_wp2_with fail
    go_ret
    exact ⟨false, rfl, fun h => by simp at h, fun _ => .inl ⟨hne, H0.out⟩⟩
/-- A slice of these lies where it says, whatever holds. -/
def lieNode (sa : Option Addr) (l : List Nd) (I : Nat → World → Prop) : Prop := l ≠ [] → ∃ b o, sa = some ⟨b, o, none⟩ ∧ ∀ k w, I k w → ∀ i (h : i < l.length) j, j < 7 → w.cell? ⟨b, o + i * 7 + j, none⟩ = (l[i].cells)[j]?
set_option maxRecDepth 100000 in
set_option maxHeartbeats 3200000 in
theorem alikeNode_calls (fn : Nat) (caps : Array Value) (hent : ∀ args w, (callFunc fn args).run Tryd.prog w = .ok (.enter fn args) w) (la lb : List Nd) (aa ab : Option Addr) (ca cb : Nat) (w : World) (I : Nat → World → Prop) (F : World → Prop)
    (hla : lieNode aa la I) (hlb : lieNode ab lb I) (hdraw : ∀ k w q, I k w → I k (w.drewN q))
    (hstep : ∀ k (h : k < la.length) (h' : k < lb.length) w, I k w → Calls Tryd.prog fn (#[la[k].val, lb[k].val] ++ caps) w fun r w2 => ∃ q, r = .returned (.bool q) ∧ (q = true → I (k + 1) w2) ∧ (q = false → F w2))
    (h0 : I 0 w) (hn : la.length ≤ 1048576) (hn' : lb.length ≤ 1048576) :
    Calls Tryd.prog 39 #[.slice aa la.length ca, .slice ab lb.length cb, .func (.func fn) #[] caps] w fun r w' => AlikePost la.length lb.length I F r w' := by
  obtain ⟨n, hN⟩ : ∃ n, n = la.length := ⟨_, rfl⟩
  obtain ⟨n', hN'⟩ : ∃ n', n' = lb.length := ⟨_, rfl⟩
  rw [← hN] at hn
  rw [← hN'] at hn'
  have HP : Hid (∀ r w', AlikePost n n' I F r w' → AlikePost la.length lb.length I F r w') := fun r w' h => by rw [← hN, ← hN']; exact h
  rw [← hN, ← hN']
  have HN : Hid _ := hN
  have HN' : Hid _ := hN'
  have HLa : Hid (lieNode aa la I) := hla
  have HLb : Hid (lieNode ab lb I) := hlb
  have HD : Hid _ := hdraw
  have HSt : Hid _ := hstep
  have H0 : Hid _ := h0
  clear hN hN' hla hlb hdraw hstep h0
  by_cases hne : n = n'
  · subst hne
    go_enter Tryd.func39, Tryd.ntmps39
    go_wp2_with fail
    go_loopw [15] (fun i wr => ∃ k : Nat, k ≤ n ∧ i = .int .i64 k ∧ Hid (I k wr)) (fun i _ => n - (intOf i).toNat)
    case atStart => exact ⟨0, by omega, rfl, H0⟩
    case round =>
      obtain ⟨k, hk, rfl, HI⟩ := hrel
      by_cases hlt : k < n
      · have hka : k < la.length := by rw [← HN.out]; exact hlt
        have hkb : k < lb.length := by rw [← HN'.out]; exact hlt
        obtain ⟨ba, oa, rfl, hA⟩ := HLa.out (by intro h; rw [h] at hka; simp at hka)
        obtain ⟨bb, ob, rfl, hB⟩ := HLb.out (by intro h; rw [h] at hkb; simp at hkb)
        have hA := hA k wr HI.out k hka
        have hB := hB k wr HI.out k hkb
        have CC := HSt.out k hka hkb wr.drew (HD.out k wr 1 HI.out)
        generalize la[k] = x at hA CC
        generalize lb[k] = y at hB CC
        obtain ⟨fl1, nm1, pl1, ia1, ic1, ins1, oa1, oc1, outs1, va1, vc1, vars1, qa1, qc1, eqs1⟩ := x
        obtain ⟨fl2, nm2, pl2, ia2, ic2, ins2, oa2, oc2, outs2, va2, vc2, vars2, qa2, qc2, eqs2⟩ := y
        have f0 : wr.cell? ⟨ba, oa + k * 7, none⟩ = some (.bool fl1) := hA 0 (by omega)
        have f1 : wr.cell? ⟨ba, oa + k * 7 + 1, none⟩ = some (.string nm1) := hA 1 (by omega)
        have f2 : wr.cell? ⟨ba, oa + k * 7 + 2, none⟩ = some (.int .i64 pl1) := hA 2 (by omega)
        have f3 : wr.cell? ⟨ba, oa + k * 7 + 3, none⟩ = some (.slice ia1 ins1.length ic1) := hA 3 (by omega)
        have f4 : wr.cell? ⟨ba, oa + k * 7 + 4, none⟩ = some (.slice oa1 outs1.length oc1) := hA 4 (by omega)
        have f5 : wr.cell? ⟨ba, oa + k * 7 + 5, none⟩ = some (.slice va1 vars1.length vc1) := hA 5 (by omega)
        have f6 : wr.cell? ⟨ba, oa + k * 7 + 6, none⟩ = some (.slice qa1 eqs1.length qc1) := hA 6 (by omega)
        have g0 : wr.cell? ⟨bb, ob + k * 7, none⟩ = some (.bool fl2) := hB 0 (by omega)
        have g1 : wr.cell? ⟨bb, ob + k * 7 + 1, none⟩ = some (.string nm2) := hB 1 (by omega)
        have g2 : wr.cell? ⟨bb, ob + k * 7 + 2, none⟩ = some (.int .i64 pl2) := hB 2 (by omega)
        have g3 : wr.cell? ⟨bb, ob + k * 7 + 3, none⟩ = some (.slice ia2 ins2.length ic2) := hB 3 (by omega)
        have g4 : wr.cell? ⟨bb, ob + k * 7 + 4, none⟩ = some (.slice oa2 outs2.length oc2) := hB 4 (by omega)
        have g5 : wr.cell? ⟨bb, ob + k * 7 + 5, none⟩ = some (.slice va2 vars2.length vc2) := hB 5 (by omega)
        have g6 : wr.cell? ⟨bb, ob + k * 7 + 6, none⟩ = some (.slice qa2 eqs2.length qc2) := hB 6 (by omega)
        simp only [Nd.val, Nd.cells, List.toArray] at CC
        clear hA hB
        go_wp2_with fail
        go_region_with (refine CC.mono ?_; rintro r w2 ⟨q, rfl, hq1, hq2⟩; have HQ1 : Hid _ := hq1; have HQ2 : Hid _ := hq2; clear hq1 hq2)
        all_goals clear CC f0 g0 f1 g1 f2 g2 f3 g3 f4 g4 f5 g5 f6 g6
        all_goals
          (cases q
           · go_wp2_with fail
             go_ret
             exact ⟨false, rfl, fun h => (by simp at h), fun _ => .inr (HQ2.out (by first | rfl | trivial))⟩
           · go_wp2_with fail
             go_roundw
             case rel => exact ⟨k + 1, by omega, by go_num, HQ1.out (by first | rfl | trivial)⟩
             case measure => simp [intOf]; omega)
      · obtain rfl : k = n := by omega
        go_wp2_with fail
        go_ret
        exact ⟨true, rfl, fun _ => ⟨rfl, HI.out⟩, fun h => by simp at h⟩
  · have hne' : ¬ (n : Int) = (n' : Int) := by omega
    go_enter Tryd.func39, Tryd.ntmps39
    go_wp2_with fail
    go_ret
    exact ⟨false, rfl, fun h => by simp at h, fun _ => .inl ⟨hne, H0.out⟩⟩
/-- A slice of these lies where it says, whatever holds. -/
def lieText (sa : Option Addr) (l : List ByteArray) (I : Nat → World → Prop) : Prop := l ≠ [] → ∃ b o, sa = some ⟨b, o, none⟩ ∧ ∀ k w, I k w → ∀ i (h : i < l.length) j, j < 1 → w.cell? ⟨b, o + i * 1 + j, none⟩ = (([.string l[i]] : List Value))[j]?
set_option maxRecDepth 100000 in
set_option maxHeartbeats 3200000 in
theorem alikeText_calls (fn : Nat) (caps : Array Value) (hent : ∀ args w, (callFunc fn args).run Tryd.prog w = .ok (.enter fn args) w) (la lb : List ByteArray) (aa ab : Option Addr) (ca cb : Nat) (w : World) (I : Nat → World → Prop) (F : World → Prop)
    (hla : lieText aa la I) (hlb : lieText ab lb I) (hdraw : ∀ k w q, I k w → I k (w.drewN q))
    (hstep : ∀ k (h : k < la.length) (h' : k < lb.length) w, I k w → Calls Tryd.prog fn (#[(Value.string la[k]), (Value.string lb[k])] ++ caps) w fun r w2 => ∃ q, r = .returned (.bool q) ∧ (q = true → I (k + 1) w2) ∧ (q = false → F w2))
    (h0 : I 0 w) (hn : la.length ≤ 1048576) (hn' : lb.length ≤ 1048576) :
    Calls Tryd.prog 103 #[.slice aa la.length ca, .slice ab lb.length cb, .func (.func fn) #[] caps] w fun r w' => AlikePost la.length lb.length I F r w' := by
  obtain ⟨n, hN⟩ : ∃ n, n = la.length := ⟨_, rfl⟩
  obtain ⟨n', hN'⟩ : ∃ n', n' = lb.length := ⟨_, rfl⟩
  rw [← hN] at hn
  rw [← hN'] at hn'
  have HP : Hid (∀ r w', AlikePost n n' I F r w' → AlikePost la.length lb.length I F r w') := fun r w' h => by rw [← hN, ← hN']; exact h
  rw [← hN, ← hN']
  have HN : Hid _ := hN
  have HN' : Hid _ := hN'
  have HLa : Hid (lieText aa la I) := hla
  have HLb : Hid (lieText ab lb I) := hlb
  have HD : Hid _ := hdraw
  have HSt : Hid _ := hstep
  have H0 : Hid _ := h0
  clear hN hN' hla hlb hdraw hstep h0
  by_cases hne : n = n'
  · subst hne
    go_enter Tryd.func103, Tryd.ntmps103
    go_wp2_with fail
    go_loopw [15] (fun i wr => ∃ k : Nat, k ≤ n ∧ i = .int .i64 k ∧ Hid (I k wr)) (fun i _ => n - (intOf i).toNat)
    case atStart => exact ⟨0, by omega, rfl, H0⟩
    case round =>
      obtain ⟨k, hk, rfl, HI⟩ := hrel
      by_cases hlt : k < n
      · have hka : k < la.length := by rw [← HN.out]; exact hlt
        have hkb : k < lb.length := by rw [← HN'.out]; exact hlt
        obtain ⟨ba, oa, rfl, hA⟩ := HLa.out (by intro h; rw [h] at hka; simp at hka)
        obtain ⟨bb, ob, rfl, hB⟩ := HLb.out (by intro h; rw [h] at hkb; simp at hkb)
        have hA := hA k wr HI.out k hka
        have hB := hB k wr HI.out k hkb
        have CC := HSt.out k hka hkb wr.drew (HD.out k wr 1 HI.out)
        generalize la[k] = x at hA CC
        generalize lb[k] = y at hB CC
        have f0 : wr.cell? ⟨ba, oa + k, none⟩ = some (.string x) := by have := hA 0 (by omega); simpa using this
        have g0 : wr.cell? ⟨bb, ob + k, none⟩ = some (.string y) := by have := hB 0 (by omega); simpa using this
        clear hA hB
        go_wp2_with fail
        go_region_with (refine CC.mono ?_; rintro r w2 ⟨q, rfl, hq1, hq2⟩; have HQ1 : Hid _ := hq1; have HQ2 : Hid _ := hq2; clear hq1 hq2)
        all_goals clear CC f0 g0
        all_goals
          (cases q
           · go_wp2_with fail
             go_ret
             exact ⟨false, rfl, fun h => (by simp at h), fun _ => .inr (HQ2.out (by first | rfl | trivial))⟩
           · go_wp2_with fail
             go_roundw
             case rel => exact ⟨k + 1, by omega, by go_num, HQ1.out (by first | rfl | trivial)⟩
             case measure => simp [intOf]; omega)
      · obtain rfl : k = n := by omega
        go_wp2_with fail
        go_ret
        exact ⟨true, rfl, fun _ => ⟨rfl, HI.out⟩, fun h => by simp at h⟩
  · have hne' : ¬ (n : Int) = (n' : Int) := by omega
    go_enter Tryd.func103, Tryd.ntmps103
    go_wp2_with fail
    go_ret
    exact ⟨false, rfl, fun h => by simp at h, fun _ => .inl ⟨hne, H0.out⟩⟩
end Go.Proofs.YthbjagmlcemefaaDoor
