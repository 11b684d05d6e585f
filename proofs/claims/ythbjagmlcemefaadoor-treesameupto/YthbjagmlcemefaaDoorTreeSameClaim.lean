/- PROVED: TreeSame, for any two programs and any two expressions whose bulk is at most 1048576: the call returns true and they read as they did (the second form's card: 'Upto'); the table argCount as the program's text lays it. -/
import Derived.Test.YthbjagmlcemefaaDoorTreeAlive
import Derived.Test.YthbjagmlcemefaaDoorRefSameProg
import Derived.Test.YthbjagmlcemefaaDoorTreeLarge
import Derived.Test.YthbjagmlcemefaaDoorTreeKit
import Derived.Test.YthbjagmlcemefaaDoorTreeOpen
namespace Go.Proofs.YthbjagmlcemefaaDoor
open Go.RowKit
open Ex.size Ex.depth Ex.lies Ex.bulk Ex.good Ex.same
attribute [local go_sem] later_size later_cell later_frozen later_setCell later_drew later_drewN later_tape drewN_setCell drewN_alloc drewN_later later_later lt_more lt_more1 lt_more2 lt_more3 lt_more4 lk0_0_1 lk1_0_1 lk2_0_1 lk0_0_2 lk1_0_2 lk2_0_2 lk0_1_2 lk0_0_3 lk1_0_3 lk2_0_3 lk0_1_3 lk0_2_3 lk0_0_4 lk1_0_4 lk2_0_4 lk0_1_4 lk0_2_4 lk0_3_4 lk0_0_5 lk1_0_5 lk2_0_5 lk0_1_5 lk0_2_5 lk0_3_5 lk0_4_5 lk0_0_6 lk1_0_6 lk2_0_6 lk0_1_6 lk0_2_6 lk0_3_6 lk0_4_6 lk0_5_6 lk0_0_7 lk1_0_7 lk2_0_7 lk0_1_7 lk0_2_7 lk0_3_7 lk0_4_7 lk0_5_7 lk0_6_7
theorem likeB_self {α : Type} {f : α → α → Bool} (h : ∀ x, f x x = true) (l : List α) : likeB f l l = true := by
  induction l with
  | nil => rfl
  | cons x r ih => simp [likeB, h, ih]
theorem same_refl_upto (m : Nat) : ∀ e : Ex, e.size ≤ m → e.same e = true := by
  induction m with
  | zero => intro e h; obtain ⟨kd, pl, nm, it, dn, a, cap, l⟩ := e; simp [Ex.size] at h
  | succ m ih =>
    intro e h
    obtain ⟨kd, pl, nm, it, dn, a, cap, l⟩ := e
    have key : ∀ r : List Ex, Ex.size.sizes r ≤ m → sames r r = true := by
      intro r
      induction r with
      | nil => intro _; rfl
      | cons x r ihr =>
        intro hr
        simp only [Ex.size.sizes] at hr
        simp [sames, ih x (by omega), ihr (by omega)]
    have hs : Ex.size.sizes l ≤ m := by simp only [Ex.size] at h; omega
    simp [Ex.same, key l hs]
theorem same_refl (e : Ex) : e.same e = true := same_refl_upto e.size e (Nat.le_refl _)
theorem textEq_refl (x : ByteArray) : textEq x x = true := by simp [textEq]
theorem ndSame_refl (x : Nd) : ndSame x x = true := by
  simp [ndSame, textEq_refl, likeB_self (f := pmSame) (fun p => by simp [pmSame, textEq_refl]), likeB_self (f := eqSame) (fun p => by simp [eqSame, same_refl, likeB_self textEq_refl])]
set_option maxRecDepth 100000 in
set_option maxHeartbeats 12800000 in
theorem same_walk (l l' : List Nd) (a a' : Option Addr) (cap cap' : Nat) (hg : Goods l) (hg' : Goods l') (e e' : Ex) (he : e.bulk ≤ 1048576) (he' : e'.bulk ≤ 1048576) (w : World) (hl : Lie w a l) (hl' : Lie w a' l') (hle : e.lies w) (hle' : e'.lies w) (ht : HasTab w) : Calls Tryd.prog 4 #[.agg #[.slice a l.length cap], .agg #[.slice a' l'.length cap'], e.val, e'.val] w fun x w' => x = .returned (.bool true) ∧ Below w.heap.size w w' := by
  obtain ⟨W0, hW0⟩ : ∃ W0 : World, W0 = (((w.alloc (.cells #[.slice a l.length cap] 25)).alloc (.cells #[.slice a' l'.length cap'] 25)).alloc (.cells e.cells.toArray 33)).alloc (.cells e'.cells.toArray 33) := ⟨_, rfl⟩
  have hb0 : Below w.heap.size w W0 := by rw [hW0]; exact ((((Below.refl _ _).alloc (Nat.le_refl _) _).alloc (by simp) _).alloc (by first | (simp; done) | (simp; omega)) _).alloc (by first | (simp; done) | (simp; omega)) _
  have hs0 : W0.heap.size = w.heap.size + 4 := by rw [hW0]; simp
  have x0 : W0.cell? ⟨w.heap.size, 0, none⟩ = some (.slice a l.length cap) := by
    rw [hW0, World.cell?_alloc_past _ _ _ (by first | (simp; done) | (simp; omega)), World.cell?_alloc_past _ _ _ (by first | (simp; done) | (simp; omega)), World.cell?_alloc_past _ _ _ (by simp), World.cell?_alloc_at _ _ _ _ rfl]; rfl
  have x1 : W0.cell? ⟨w.heap.size + 1, 0, none⟩ = some (.slice a' l'.length cap') := by
    rw [hW0, World.cell?_alloc_past _ _ _ (by first | (simp; done) | (simp; omega)), World.cell?_alloc_past _ _ _ (by simp), World.cell?_alloc_at _ _ _ _ (by simp)]; rfl
  have hxe : ∀ j, j < 6 → W0.cell? ⟨w.heap.size + 2, j, none⟩ = e.cells[j]? := fun j hj => by rw [hW0, World.cell?_alloc_past _ _ _ (by simp)]; exact cell_alloc_eq (by simp)
  have hxe' : ∀ j, j < 6 → W0.cell? ⟨w.heap.size + 3, j, none⟩ = e'.cells[j]? := fun j hj => by rw [hW0]; exact cell_alloc_eq (by simp)
  have hl0 := hl.below hb0
  have hl0' := hl'.below hb0
  have ht0 := ht.below hb0
  have he0 : e.lies W0 := lies_below hb0 _ hle
  have he0' : e'.lies W0 := lies_below hb0 _ hle'
  have z1 := Nat.le_trans (size_bulk e) he
  have z2 := Nat.le_trans (size_bulk e') he'
  have CP : Hid (∀ w', Hid (Below W0.heap.size W0 w') → Calls Tryd.prog 12 #[.agg #[.slice a l.length cap]] w' fun x w'' => SomeBool x ∧ Below w'.heap.size w' w'') := fun w' h => large_calls l a cap hg w' (hl0.below h.out)
  have CQ : Hid (∀ w', Hid (Below W0.heap.size W0 w') → Calls Tryd.prog 12 #[.agg #[.slice a' l'.length cap']] w' fun x w'' => SomeBool x ∧ Below w'.heap.size w' w'') := fun w' h => large_calls l' a' cap' hg' w' (hl0'.below h.out)
  have CA : LikeIs W0 13 #[e.val] (heavyB e) := ⟨fun w' h => heavy_calls e he w' (lies_below h.out _ he0)⟩
  have CB : LikeIs W0 13 #[e'.val] (heavyB e') := ⟨fun w' h => heavy_calls e' he' w' (lies_below h.out _ he0')⟩
  have D1 : LikeIs W0 14 #[.agg #[.slice a l.length cap], .agg #[.slice a' l'.length cap']] (likeB ndSame l l') := ⟨fun w' h => sameProgram_prog l l' a a' cap cap' hg hg' w' (hl0.below h.out) (hl0'.below h.out)⟩
  have R1 : LikeIs W0 15 #[.agg #[.slice a l.length cap], .agg #[.slice a' l'.length cap']] (likeB ndSame l l') := ⟨fun w' h => sameProgram_ref l l' a a' cap cap' hg hg' w' (hl0.below h.out) (hl0'.below h.out)⟩
  have D2 : LikeIs W0 14 #[.agg #[.slice a l.length cap], .agg #[.slice a l.length cap]] true := ⟨fun w' h => by
    have h1 := sameProgram_prog l l a a cap cap hg hg w' (hl0.below h.out) (hl0.below h.out)
    rw [likeB_self ndSame_refl] at h1
    exact h1⟩
  have E1 : LikeIs W0 16 #[e.val, e'.val] (e.same e') := ⟨fun w' h => same_prog e e' he he' w' (lies_below h.out _ he0) (lies_below h.out _ he0')⟩
  have F1 : LikeIs W0 17 #[e.val, e'.val] (e.same e') := ⟨fun w' h => same_ex e.size e e' (Nat.le_refl _) z1 z2 w' (lies_below h.out _ he0) (lies_below h.out _ he0')⟩
  have E2 : LikeIs W0 16 #[e.val, e.val] true := ⟨fun w' h => by
    have h1 := same_prog e e he he w' (lies_below h.out _ he0) (lies_below h.out _ he0)
    rw [same_refl] at h1
    exact h1⟩
  have HA : LikeIs W0 11 #[] true := ⟨fun w' h => alive_calls w' (ht0.below h.out)⟩
  generalize likeB ndSame l l' = s1 at *
  generalize e.same e' = s2 at *
  generalize heavyB e = v1 at *
  generalize heavyB e' = v2 at *
  generalize l.length = n at *
  generalize l'.length = n' at *
  have HB0 : Hid (Below w.heap.size w W0) := hb0
  have HS0 : Hid (W0.heap.size = w.heap.size + 4) := hs0
  obtain ⟨kd, pl, nm, it, dn, ea, ec, el⟩ := e
  obtain ⟨kd', pl', nm', it', dn', ea', ec', el'⟩ := e'
  simp only [Ex.val, Ex.cells, List.toArray] at CA CB E1 F1 E2 hW0 ⊢
  have HSS : Hid (∀ w', Hid (Below W0.heap.size W0 w') → Hid (Below W0.heap.size W0 w') ∧ w'.cell? ⟨w.heap.size, 0, none⟩ = some (.slice a n cap) ∧ w'.cell? ⟨w.heap.size + 1, 0, none⟩ = some (.slice a' n' cap') ∧ w'.cell? ⟨w.heap.size + 2, 0, none⟩ = some (.int .u8 kd) ∧ w'.cell? ⟨w.heap.size + 2, 1, none⟩ = some (.int .i64 pl) ∧ w'.cell? ⟨w.heap.size + 2, 2, none⟩ = some (.string nm) ∧ w'.cell? ⟨w.heap.size + 2, 3, none⟩ = some (.int .i64 it) ∧ w'.cell? ⟨w.heap.size + 2, 4, none⟩ = some (.int .i64 dn) ∧ w'.cell? ⟨w.heap.size + 2, 5, none⟩ = some (.slice ea el.length ec) ∧ w'.cell? ⟨w.heap.size + 3, 0, none⟩ = some (.int .u8 kd') ∧ w'.cell? ⟨w.heap.size + 3, 1, none⟩ = some (.int .i64 pl') ∧ w'.cell? ⟨w.heap.size + 3, 2, none⟩ = some (.string nm') ∧ w'.cell? ⟨w.heap.size + 3, 3, none⟩ = some (.int .i64 it') ∧ w'.cell? ⟨w.heap.size + 3, 4, none⟩ = some (.int .i64 dn') ∧ w'.cell? ⟨w.heap.size + 3, 5, none⟩ = some (.slice ea' el'.length ec')) := fun w' h => by
    have hc : ∀ b j, b < w.heap.size + 4 → w'.cell? ⟨b, j, none⟩ = W0.cell? ⟨b, j, none⟩ := fun b j hb => h.out.cell (p := ⟨b, j, none⟩) (by rw [hs0]; exact hb)
    exact ⟨h, (hc _ _ (by omega)).trans x0, (hc _ _ (by omega)).trans x1, (hc _ _ (by omega)).trans (hxe 0 (by omega)), (hc _ _ (by omega)).trans (hxe 1 (by omega)), (hc _ _ (by omega)).trans (hxe 2 (by omega)), (hc _ _ (by omega)).trans (hxe 3 (by omega)), (hc _ _ (by omega)).trans (hxe 4 (by omega)), (hc _ _ (by omega)).trans (hxe 5 (by omega)), (hc _ _ (by omega)).trans (hxe' 0 (by omega)), (hc _ _ (by omega)).trans (hxe' 1 (by omega)), (hc _ _ (by omega)).trans (hxe' 2 (by omega)), (hc _ _ (by omega)).trans (hxe' 3 (by omega)), (hc _ _ (by omega)).trans (hxe' 4 (by omega)), (hc _ _ (by omega)).trans (hxe' 5 (by omega))⟩
  have bl : Hid (∀ (w' w'' : World), Hid (Below W0.heap.size W0 w') → Below w'.heap.size w' w'' → Hid (Below W0.heap.size W0 w'')) := fun w' w'' h1 h2 => h1.out.trans (h2.mono h1.out.size)
  have K0 : Hid (Below W0.heap.size W0 W0) := Below.refl _ _
  have K0d : Hid (Below W0.heap.size W0 W0.drew) := Below.drew K0.out
  obtain ⟨-, u0, u1, u2, u3, u4, u5, u6, u7, u8, u9, u10, u11, u12, u13⟩ := HSS.out W0 K0
  have HW0 : Hid _ := hW0
  clear hb0 hs0 x0 x1 hxe hxe' hl0 hl0' ht0 he0 he0' z1 z2 hl hl' hle hle' ht hg hg' he he' hW0
  go_enter Tryd.func4, Tryd.ntmps4
  go_wp2_with fail
  rw [← HW0.out]
  refine (CP.out _ K0).mono ?_
  rintro x w1 ⟨⟨q1, rfl⟩, hb1⟩
  have K1 := bl.out _ w1 K0 hb1
  clear hb1 u0 u1 u2 u3 u4 u5 u6 u7 u8 u9 u10 u11 u12 u13
  obtain ⟨-, u0, u1, u2, u3, u4, u5, u6, u7, u8, u9, u10, u11, u12, u13⟩ := HSS.out w1 K1
  cases q1
  · go_wp2_with fail
    refine (CQ.out _ K1).mono ?_
    rintro x w2 ⟨⟨q2, rfl⟩, hb2⟩
    have K2 := bl.out _ w2 K1 hb2
    clear hb2 u0 u1 u2 u3 u4 u5 u6 u7 u8 u9 u10 u11 u12 u13
    obtain ⟨-, u0, u1, u2, u3, u4, u5, u6, u7, u8, u9, u10, u11, u12, u13⟩ := HSS.out w2 K2
    cases q2
    · go_wp2_with fail
      refine (CA.out _ K2).mono ?_
      rintro x w3 ⟨rfl, hb3⟩
      have K3 := bl.out _ w3 K2 hb3
      clear hb3 u0 u1 u2 u3 u4 u5 u6 u7 u8 u9 u10 u11 u12 u13
      obtain ⟨-, u0, u1, u2, u3, u4, u5, u6, u7, u8, u9, u10, u11, u12, u13⟩ := HSS.out w3 K3
      cases v1
      · go_wp2_with fail
        refine (CB.out _ K3).mono ?_
        rintro x w4 ⟨rfl, hb4⟩
        have K4 := bl.out _ w4 K3 hb4
        clear hb4 u0 u1 u2 u3 u4 u5 u6 u7 u8 u9 u10 u11 u12 u13
        obtain ⟨-, u0, u1, u2, u3, u4, u5, u6, u7, u8, u9, u10, u11, u12, u13⟩ := HSS.out w4 K4
        cases v2
        · have K4d : Hid (Below W0.heap.size W0 w4.drew) := Below.drew K4.out
          go_wp2_with fail
          go_region_held3 (fun w' => Hid (Below W0.heap.size W0 w') ∧ w'.cell? ⟨w.heap.size, 0, none⟩ = some (.slice a n cap) ∧ w'.cell? ⟨w.heap.size + 1, 0, none⟩ = some (.slice a' n' cap') ∧ w'.cell? ⟨w.heap.size + 2, 0, none⟩ = some (.int .u8 kd) ∧ w'.cell? ⟨w.heap.size + 2, 1, none⟩ = some (.int .i64 pl) ∧ w'.cell? ⟨w.heap.size + 2, 2, none⟩ = some (.string nm) ∧ w'.cell? ⟨w.heap.size + 2, 3, none⟩ = some (.int .i64 it) ∧ w'.cell? ⟨w.heap.size + 2, 4, none⟩ = some (.int .i64 dn) ∧ w'.cell? ⟨w.heap.size + 2, 5, none⟩ = some (.slice ea el.length ec) ∧ w'.cell? ⟨w.heap.size + 3, 0, none⟩ = some (.int .u8 kd') ∧ w'.cell? ⟨w.heap.size + 3, 1, none⟩ = some (.int .i64 pl') ∧ w'.cell? ⟨w.heap.size + 3, 2, none⟩ = some (.string nm') ∧ w'.cell? ⟨w.heap.size + 3, 3, none⟩ = some (.int .i64 it') ∧ w'.cell? ⟨w.heap.size + 3, 4, none⟩ = some (.int .i64 dn') ∧ w'.cell? ⟨w.heap.size + 3, 5, none⟩ = some (.slice ea' el'.length ec')) (go_simp) ((refine Calls.mono (LikeIs.out (W := W0) (by assumption) _ (by assumption)) ?_; rintro r w5 ⟨rfl, hb5⟩; obtain ⟨hK5, u0, u1, u2, u3, u4, u5, u6, u7, u8, u9, u10, u11, u12, u13⟩ := HSS.out w5 (bl.out _ w5 (by assumption) hb5); clear hb5))
          all_goals go_wp2_with fail
          all_goals go_ret
          all_goals exact ⟨rfl, HB0.out.trans (hK5.out.mono (by have := HS0.out; omega))⟩
        · go_wp2_with fail
          refine (HA.out _ K4).mono ?_
          rintro x w9 ⟨rfl, hb9⟩
          have K9 := bl.out _ w9 K4 hb9
          clear hb9
          go_wp2_with fail
          go_ret
          exact ⟨rfl, HB0.out.trans (K9.out.mono (by have := HS0.out; omega))⟩
      · go_wp2_with fail
        refine (HA.out _ K3).mono ?_
        rintro x w9 ⟨rfl, hb9⟩
        have K9 := bl.out _ w9 K3 hb9
        clear hb9
        go_wp2_with fail
        go_ret
        exact ⟨rfl, HB0.out.trans (K9.out.mono (by have := HS0.out; omega))⟩
    · go_wp2_with fail
      refine (HA.out _ K2).mono ?_
      rintro x w9 ⟨rfl, hb9⟩
      have K9 := bl.out _ w9 K2 hb9
      clear hb9
      go_wp2_with fail
      go_ret
      exact ⟨rfl, HB0.out.trans (K9.out.mono (by have := HS0.out; omega))⟩
  · go_wp2_with fail
    refine (HA.out _ K1).mono ?_
    rintro x w9 ⟨rfl, hb9⟩
    have K9 := bl.out _ w9 K1 hb9
    clear hb9
    go_wp2_with fail
    go_ret
    exact ⟨rfl, HB0.out.trans (K9.out.mono (by have := HS0.out; omega))⟩
end Go.Proofs.YthbjagmlcemefaaDoor
namespace Go.Proofs.YthbjagmlcemefaaDoor.treeSame
open Go.ChangeShapes Go.WideShapes Go.ChangeAt Go.RowKit
open Ex.size Ex.depth Ex.lies Ex.bulk Ex.good
set_option maxRecDepth 100000 in
theorem contract (H : Type) (enc : TypeId × Value → H) (W : World) (base : Nat) (args : Array Value) (ds gs : List (DataW H)) (before : List MemPlace)
    (hval : ∀ (j : Nat) t v, Tryd.f4.params[j]? = some t → args[j]? = some v → Value.okWide Tryd.prog W .any base t v)
    (hW : DataW.Whole enc Tryd.prog Tryd.f4.params.toList Rows.treeSameSpec.vars false W args.toList ds gs before) (hL : laidMetH Tryd.prog Rows.treeSameUptoRow.laid W) (hbk : Rows.uptoSmall H (ds ++ gs) = true) :
    Calls Tryd.prog 4 args W fun e W' => ∃ v, e = .returned v ∧ Rows.treeSameSpec.post enc Tryd.prog Tryd.f4 false true false false W args v W' := by
  have hW' := hW
  obtain ⟨p, q, hA0, hV, rfl, hfz, hnd⟩ := hW
  have hA : DataW.TrodAll enc Tryd.prog W 0 (fun _ => true) true Tryd.f4.params.toList args.toList ds p := hA0
  rw [Tryd.params4] at hA hval
  obtain ⟨v0, vs0, d0, ds0, p0, q0, hargs0, rfl, rfl, h0, r0⟩ := trodAll_cons hA
  obtain ⟨v1, vs1, d1, ds1, p1, q1, hargs1, rfl, rfl, h1, r1⟩ := trodAll_cons r0
  obtain ⟨v2, vs2, d2, ds2, p2, q2, hargs2, rfl, rfl, h2, r2⟩ := trodAll_cons r1
  obtain ⟨v3, vs3, d3, ds3, p3, q3, hargs3, rfl, rfl, h3, r3⟩ := trodAll_cons r2
  obtain ⟨rfl, rfl, rfl⟩ := trodAll_nil r3
  obtain rfl : args = #[v0, v1, v2, v3] := by cases args; simp_all
  obtain ⟨rfl, rfl⟩ := trodVars_none hV
  have hbs : Rows.uptoBulk d0 ≤ 1048576 ∧ Rows.uptoBulk d1 ≤ 1048576 ∧ Rows.uptoBulk d2 ≤ 1048576 ∧ Rows.uptoBulk d3 ≤ 1048576 := by
    have h := of_decide_eq_true hbk
    simp only [List.append_nil, Rows.uptoBulkAll] at h
    omega
  obtain ⟨a, l, cap, rfl, hl, hg⟩ := open_prog (hval 0 25 v0 rfl rfl) h0 hbs.1
  obtain ⟨a', l', cap', rfl, hl', hg'⟩ := open_prog (hval 1 25 v1 rfl rfl) h1 hbs.2.1
  obtain ⟨e, rfl, hle, hge, hbe⟩ := open_expr (hval 2 33 v2 rfl rfl) h2
  obtain ⟨e', rfl, hle', hge', hbe'⟩ := open_expr (hval 3 33 v3 rfl rfl) h3
  clear hA0
  simp only [List.append_nil] at hW'
  have hlt : ∀ x ∈ p0 ++ (p1 ++ (p2 ++ p3)), x.block < W.heap.size := fun x hx => hW'.lt x hx
  refine (same_walk l l' a a' cap cap' hg hg' e e' (Nat.le_trans hbe hbs.2.2.1) (Nat.le_trans hbe' hbs.2.2.2) W hl hl' hle hle' (tab_of hL)).mono fun r W' ⟨hr, hbl⟩ => ?_
  subst hr
  exact ⟨_, rfl, _, _, _, [], p0 ++ (p1 ++ (p2 ++ p3)), [], hW', trodAll_mk1 (shut_bool Tryd.underlying4 _), by
    have := trodAll_cons_mk (Below.trod (enc := enc) seatLaid (by kernel_rfl) (of_decide_eq_true (by kernel_rfl)) h0 hbl (fun x hx => hlt x (by simp [hx]))) (trodAll_cons_mk (Below.trod (enc := enc) seatLaid (by kernel_rfl) (of_decide_eq_true (by kernel_rfl)) h1 hbl (fun x hx => hlt x (by simp [hx]))) (trodAll_cons_mk (Below.trod (enc := enc) seatLaid (by kernel_rfl) (of_decide_eq_true (by kernel_rfl)) h2 hbl (fun x hx => hlt x (by simp [hx]))) (trodAll_cons_mk (Below.trod (enc := enc) seatLaid (by kernel_rfl) (of_decide_eq_true (by kernel_rfl)) h3 hbl (fun x hx => hlt x (by simp [hx]))) (trodAll_mk0 (enc := enc)))))
    rw [List.append_nil] at this
    exact this, rfl, hbl.frame _, fun h => by cases h⟩
theorem laid_met (os : Os) : laidMet Tryd.prog Rows.treeSameUptoRow.laid ((World.doorLaid Tryd.prog 400 os).forCall (fun _ _ => 0) ⟨#[], #[.agg #[.slice none 0 0], .agg #[.slice none 0 0], .agg #[.int .u8 0, .int .i64 0, .string ⟨#[]⟩, .int .i64 0, .int .i64 0, .slice none 0 0], .agg #[.int .u8 0, .int .i64 0, .string ⟨#[]⟩, .int .i64 0, .int .i64 0, .slice none 0 0]], []⟩).memory :=
  laidMet_of_run' 8 (by kernel_rfl) (by kernel_rfl)
theorem reads (os : Os) {H : Type} (enc : TypeId × Value → H) : ∃ places, DataW.whole enc Tryd.prog ((World.doorLaid Tryd.prog 400 os).forCall (fun _ _ => 0) ⟨#[], #[.agg #[.slice none 0 0], .agg #[.slice none 0 0], .agg #[.int .u8 0, .int .i64 0, .string ⟨#[]⟩, .int .i64 0, .int .i64 0, .slice none 0 0], .agg #[.int .u8 0, .int .i64 0, .string ⟨#[]⟩, .int .i64 0, .int .i64 0, .slice none 0 0]], []⟩).memory Tryd.f4.params.toList Rows.treeSameSpec.vars false #[Value.agg #[.slice none 0 0], .agg #[.slice none 0 0], .agg #[.int .u8 0, .int .i64 0, .string ⟨#[]⟩, .int .i64 0, .int .i64 0, .slice none 0 0], .agg #[.int .u8 0, .int .i64 0, .string ⟨#[]⟩, .int .i64 0, .int .i64 0, .slice none 0 0]].toList 8 = some ([.agg [.nil], .agg [.nil], .agg [.lit (.int .u8 0), .lit (.int .i64 0), .lit (.string []), .lit (.int .i64 0), .lit (.int .i64 0), .nil], .agg [.lit (.int .u8 0), .lit (.int .i64 0), .lit (.string []), .lit (.int .i64 0), .lit (.int .i64 0), .nil]], [], places) :=
  ⟨[], by kernel_rfl⟩
set_option maxRecDepth 100000 in
theorem lifted (os : Os) (started : os.Started) (H : Type) (enc : TypeId × Value → H) (F : Stop.Interp) :
    ReturnsInHanded {} Tryd.checked os 4 .any ((Rows.OpenSpec.upto Rows.treeSameSpec).preRow enc Tryd.prog Tryd.f4 Rows.treeSameUptoRow.domain false Rows.treeSameUptoRow.laid) (((Rows.OpenSpec.upto Rows.treeSameSpec).at F).post enc Tryd.prog Tryd.f4 false true false false) := by
  obtain ⟨places, hx⟩ := reads os enc
  refine returnsInHanded_of_row (C := Tryd.checked) (s := Rows.OpenSpec.upto Rows.treeSameSpec) seatOwn started (by kernel_rfl) Tryd.func4
    (witness_row_at (enc := enc) (C := Tryd.checked) false (World.doorLaid Tryd.prog 400 os) #[.agg #[.slice none 0 0], .agg #[.slice none 0 0], .agg #[.int .u8 0, .int .i64 0, .string ⟨#[]⟩, .int .i64 0, .int .i64 0, .slice none 0 0], .agg #[.int .u8 0, .int .i64 0, .string ⟨#[]⟩, .int .i64 0, .int .i64 0, .slice none 0 0]] rfl (by kernel_rfl) (by kernel_rfl) (by kernel_rfl)
      (OpenSpec.preRow_of_cond 8 hx (by kernel_rfl) (fun k hk => by cases hk; kernel_rfl) (by kernel_rfl) (laid_met os))) ?_
  intro W base args ds gs before hval hW _ hcond _ hL _ _
  exact contract H enc W base args ds gs before hval hW hL (hcond _ rfl)
theorem over : Rows.TreeSameUptoSaid :=
  OpenClaim.holds_of_cond 4 Tryd.f4 rfl rfl rfl rfl rfl rfl rfl ⟨rfl, rfl, rfl, rfl, rfl⟩ rfl rfl rfl rfl rfl (by kernel_rfl) Tryd.func4 (by kernel_rfl)
    (of_decide_eq_true (by kernel_rfl)) (by unfold Func.isWrapper; first | (rw [if_pos (by decide +kernel)]; kernel_rfl) | (rw [if_neg (by decide +kernel)]; exact ⟨rfl, rfl⟩))
    (fun os started H enc _ F => by rw [OpenClaim.pre_eq_preRow]; exact lifted os started H enc F)
theorem plain (f : FuncId) (fn : Func) (hf : Tryd.pinned.checked.prog.funcNamed "carillon/carillonlaw04.TreeSame" = some f) (hfn : Tryd.pinned.checked.prog.funcs[f]? = some fn) :
    false = Tryd.pinned.checked.prog.looks [] ∧ ∀ (j : Nat) t, fn.params[j]? = some t → Tryd.pinned.checked.prog.wantsStandIn t = false := by
  obtain rfl : f = 4 := Option.some.inj ((show Tryd.prog.funcNamed "carillon/carillonlaw04.TreeSame" = some 4 by kernel_rfl).symm.trans hf) |>.symm
  obtain rfl : fn = Tryd.f4 := (Option.some.inj (Tryd.func4.symm.trans hfn)).symm
  refine ⟨by kernel_rfl, fun j t ht => ?_⟩
  rw [Tryd.params4] at ht
  have h2 : t = 25 ∨ t = 33 := by
    have h := Array.mem_of_getElem? ht
    simp only [List.mem_toArray, List.mem_cons, List.not_mem_nil, or_false] at h
    rcases h with h | h | h | h
    · exact Or.inl h
    · exact Or.inl h
    · exact Or.inr h
    · exact Or.inr h
  rcases h2 with rfl | rfl
  · exact (show Tryd.prog.wantsStandIn 25 = false by kernel_rfl)
  · exact (show Tryd.prog.wantsStandIn 33 = false by kernel_rfl)
end Go.Proofs.YthbjagmlcemefaaDoor.treeSame
namespace Go.Proofs.YthbjagmlcemefaaDoor
theorem treeSame_holds : Rows.TreeSameUptoCardSaid :=
  Claim7.holds_tied_plain_at .later [] _ _ _ _ treeSame.over (fun _ h => by cases h) (by kernel_rfl) (fun _ h => by cases h) treeSameUpto_row_tie rfl ⟨rfl, rfl⟩ (by kernel_rfl) rfl treeSame.plain (by kernel_rfl)
#print axioms treeSame_holds
end Go.Proofs.YthbjagmlcemefaaDoor
