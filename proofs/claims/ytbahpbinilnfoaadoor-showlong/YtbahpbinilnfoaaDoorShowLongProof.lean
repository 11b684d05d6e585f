/- PROVED: ShowLong, for every distance from the bound: the call returns true; no condition but that five tables (two of math/bits, one of strconv, the program's argCount and twos) start as the program's text lays them. -/
import Derived.Test.YtbahpbinilnfoaaDoorRows
import Derived.Test.YtbahpbinilnfoaaDoorCards
import Derived.Test.YtbahpbinilnfoaaDoorTie
import Derived.Test.YtbahpbinilnfoaaDoorTreeKit
import Derived.Test.YtbahpbinilnfoaaDoorShowAT
import Derived.Test.YtbahpbinilnfoaaDoorRefNodeProg
import Derived.Test.YtbahpbinilnfoaaDoorShowLongs
namespace Go.Proofs.YtbahpbinilnfoaaDoor
open Go.RowKit
open Ex.size Ex.depth Ex.lies Ex.bulk Ex.good Ex.shape Ex.text
attribute [local go_sem] later_size later_cell later_frozen later_setCell later_drew later_drewN later_tape drewN_setCell drewN_alloc drewN_later later_later lt_more lt_more1 lt_more2 lt_more3 lt_more4 lk0_0_1 lk1_0_1 lk2_0_1 lk0_0_2 lk1_0_2 lk2_0_2 lk0_1_2 lk0_0_3 lk1_0_3 lk2_0_3 lk0_1_3 lk0_2_3 lk0_0_4 lk1_0_4 lk2_0_4 lk0_1_4 lk0_2_4 lk0_3_4 lk0_0_5 lk1_0_5 lk2_0_5 lk0_1_5 lk0_2_5 lk0_3_5 lk0_4_5 lk0_0_6 lk1_0_6 lk2_0_6 lk0_1_6 lk0_2_6 lk0_3_6 lk0_4_6 lk0_5_6 lk0_0_7 lk1_0_7 lk2_0_7 lk0_1_7 lk0_2_7 lk0_3_7 lk0_4_7 lk0_5_7 lk0_6_7
set_option maxRecDepth 100000 in
set_option maxHeartbeats 6400000 in
theorem long_walk (a : Int) (wa : (Lit.int .i8 a).wf = true) (w : World) (ht : Tabs w) : Calls Tryd.prog 3 #[.int .i8 a] w fun e w' => e = .returned (.bool true) ∧ Below w.heap.size w w' := by
  have hb := bounds_i8 wa
  have hb1 : -128 ≤ a := by omega
  have hb2 : a ≤ 127 := by omega
  obtain ⟨N, hN⟩ : ∃ N : Nat, (N : Int) = 65536 + a := ⟨(65536 + a).toNat, by omega⟩
  have HN : Hid _ := hN
  have C1 := long_calls N (by omega) (by omega)
  have HC1 : Hid _ := C1
  have HT : Hid (Tabs w) := ht
  clear ht hb wa C1
  go_enter Tryd.func3, Tryd.ntmps3
  go_wp2_with fail
  rw [← hN]
  refine (HC1.out _).mono ?_
  rintro x w0 ⟨ad, c, l, rfl, hlie0, hnd, hlen, htx, hb0'⟩
  obtain ⟨w1, hw1⟩ : ∃ w1 : World, w1 = w0.alloc (.cells #[.slice ad l.length c] 25) := ⟨_, rfl⟩
  have hb01 : Below w0.heap.size w0 w1 := by rw [hw1]; exact (Below.refl _ _).alloc (Nat.le_refl _) _
  have hlie := hlie0.below hb01
  have K1 : Hid (Below w.heap.size w w1) := hb0'.trans (hb01.mono hb0'.size)
  have HS0 : Hid (w0.heap.size + 1 = w1.heap.size) := by rw [Hid, hw1]; simp
  have hx0 : w1.cell? ⟨w0.heap.size, 0, none⟩ = some (.slice ad l.length c) := by rw [hw1]; exact World.cell?_alloc_at _ _ _ _ rfl
  have HBox : Hid (∀ w', Hid (Below w1.heap.size w1 w') → w'.cell? ⟨w0.heap.size, 0, none⟩ = some (.slice ad l.length c)) := fun w' h => (h.out.cell (p := ⟨w0.heap.size, 0, none⟩) (World.block_lt_of_cell? _ ⟨w0.heap.size, 0, none⟩ hx0)).trans hx0
  have HW1 : Hid (w0.alloc (.cells #[.slice ad l.length c] 25) = w1) := hw1.symm
  obtain ⟨hg, hm⟩ := long_goods hnd hlen
  have HP : Hid (∀ w', Below w1.heap.size w1 w' → Calls Tryd.prog 5 #[.agg #[.slice ad l.length c]] w' fun x w'' => x = .returned (.tuple #[.string (outOf (ndsText l)).1, .int .i64 (outOf (ndsText l)).2]) ∧ Below w'.heap.size w' w'') := fun w' h => by
    have t := HT.out.below (K1.out.trans (h.mono K1.out.size))
    rw [← long_out hnd hlen]
    exact program_prog l ad c hg hm w' (hlie.below h) t.tab t.pow t.twos t.ng
  have HR : Hid (∀ w', Below w1.heap.size w1 w' → Calls Tryd.prog 6 #[.agg #[.slice ad l.length c]] w' fun x w'' => x = .returned (.tuple #[.string (outOf (ndsText l)).1, .int .i64 (outOf (ndsText l)).2]) ∧ Below w'.heap.size w' w'') := fun w' h => by
    rw [← long_out hnd hlen]
    exact program_ref l ad c hg hm w' (hlie.below h)
  have HA : Hid (∀ w', Below w1.heap.size w1 w' → Calls Tryd.prog 7 #[] w' fun x w'' => x = .returned (.bool true) ∧ Below w'.heap.size w' w'') := fun w' h => show_alive w' (HT.out.below (K1.out.trans (h.mono K1.out.size)))
  have bl : Hid (∀ (w' w'' : World), Hid (Below w1.heap.size w1 w') → Below w'.heap.size w' w'' → Hid (Below w1.heap.size w1 w'')) := fun w' w'' h1 h2 => h1.out.trans (h2.mono h1.out.size)
  obtain ⟨o, ho⟩ : ∃ o, o = outOf (ndsText l) := ⟨_, rfl⟩
  rw [← ho] at HP HR
  have HO : Hid ((0 < a → o.2 = 4) ∧ (¬ 0 < a → o.2 = 0 ∧ (o.1.size : Int) = N)) := by
    rw [Hid, ho, outOf, htx]
    refine ⟨fun h => ?_, fun h => ?_⟩
    · rw [if_pos (by omega)]
    · rw [if_neg (by omega)]
      refine ⟨rfl, ?_⟩
      show (((ndsText l).toArray.size : Nat) : Int) = N
      rw [List.size_toArray, htx]
  clear ho hlie hlie0 hnd hlen htx hb0' hb01 hg hm hx0 hw1
  obtain ⟨o1, o2⟩ := o
  simp only at HP HR HO
  generalize l.length = ln at *
  have C2 := HP.out w1 (Below.refl _ _)
  clear HP
  go_wp2_with fail
  rw [HW1.out]
  refine C2.mono ?_
  rintro x w2 ⟨rfl, hb3⟩
  have K2 : Hid (Below w1.heap.size w1 w2) := hb3
  have y2 := HBox.out w2 K2
  clear C2 hb3
  have C3 := HR.out w2 K2.out
  clear HR
  go_wp2_with fail
  refine C3.mono ?_
  rintro x w3 ⟨rfl, hb4⟩
  have K3 := bl.out _ w3 K2 hb4
  clear C3 hb4 y2
  have C4 := HA.out w3 K3.out
  by_cases hpos : 0 < a
  · have h4 : o2 = 4 := HO.out.1 hpos
    subst h4
    go_wp2_with fail
    refine C4.mono ?_
    rintro x w4 ⟨rfl, hb5⟩
    have K4 := bl.out _ w4 K3 hb5
    clear C4 hb5
    go_wp2_with fail
    go_ret
    exact ⟨rfl, K1.out.trans (K4.out.mono K1.out.size)⟩
  · obtain ⟨h4, h5⟩ := HO.out.2 (by omega)
    subst h4
    go_wp2_with fail
    refine C4.mono ?_
    rintro x w4 ⟨rfl, hb5⟩
    have K4 := bl.out _ w4 K3 hb5
    clear C4 hb5
    go_wp2_with fail
    go_ret
    exact ⟨rfl, K1.out.trans (K4.out.mono K1.out.size)⟩
end Go.Proofs.YtbahpbinilnfoaaDoor
namespace Go.Proofs.YtbahpbinilnfoaaDoor.showLong
open Go.ChangeShapes Go.WideShapes Go.ChangeAt Go.RowKit
theorem own : ownKnob Tryd.prog.godebug = none := by kernel_rfl
set_option maxRecDepth 100000 in
theorem lifted (os : Os) (started : os.Started) (H : Type) (enc : TypeId × Value → H) :
    ReturnsInHanded {} Tryd.checked os 3 .any (fun w args => (Rows.showLongSpec.pre enc Tryd.prog Tryd.f3 [] false w args ∧ laidMetH Tryd.prog laidShow w) ∧ sizedMet enc Tryd.prog Tryd.f3 (OpenSpec.ofChange Rows.showLongSpec) false w args)
      (Rows.showLongSpec.post enc Tryd.prog Tryd.f3 false true false false) := by
  refine returnsInHanded_of_change_and (C := Tryd.checked) (X := fun w _ => laidMetH Tryd.prog laidShow w) (fun _ _ _ hh h => h.of_heap hh) own started (by kernel_rfl) Tryd.func3
    (ChangeSpec.witness_shaped (enc := enc) (C := Tryd.checked) (os := os) (X := fun w _ => laidMetH Tryd.prog laidShow w) false (World.doorLaid Tryd.prog 400 os) #[.int .i8 0] 8 rfl (World.shaped_of_RefB (by kernel_rfl) (by kernel_rfl)) (by kernel_rfl) (by kernel_rfl) (by kernel_rfl) (doorShow os _)) ?_
  intro W base args ds gs before hval0 hW _ _ hL _
  have hval : ∀ (j : Nat) t v, Tryd.f3.params[j]? = some t → args[j]? = some v → Value.okWide Tryd.prog W .any base t v := hval0
  have hW' := hW
  obtain ⟨p, q, hA0, hV0, rfl, hfz, hnd⟩ := hW
  have hA : DataW.TrodAll enc Tryd.prog W 0 (fun _ => true) true Tryd.f3.params.toList args.toList ds p := hA0
  rw [Tryd.params3] at hA hval
  obtain ⟨v0, vs0, d0, ds0, p0, q0, hargs, rfl, rfl, h0, r0⟩ := trodAll_cons hA
  obtain ⟨rfl, rfl, rfl⟩ := trodAll_nil r0
  obtain rfl : args = #[v0] := by cases args; simp_all
  obtain ⟨rfl, rfl⟩ := trodVars_none hV0
  obtain ⟨a, rfl, rfl, rfl, wa⟩ := open_int Tryd.underlying22 (hval 0 22 v0 rfl rfl) h0
  clear hA0 hval0
  simp only [List.append_nil] at hW'
  refine (long_walk a wa W (tabs_of hL)).mono fun e W' ⟨he, hb⟩ => ?_
  subst he
  exact ⟨_, rfl, _, _, _, [], [], [], hW', trodAll_mk1 (shut_bool Tryd.underlying4 _), trodAll_cons_mk (shut_int Tryd.underlying22 wa) trodAll_mk0, rfl, hb.frame _, fun h => by cases h⟩
theorem over : Rows.ShowLongSaid :=
  OpenClaim.holds_of_wide 3 Tryd.f3 rfl rfl rfl rfl rfl rfl rfl ⟨rfl, rfl, rfl, rfl, rfl⟩ rfl rfl rfl rfl rfl (by kernel_rfl) Tryd.func3 (by kernel_rfl)
    (of_decide_eq_true (by kernel_rfl)) (by unfold Func.isWrapper; first | (rw [if_pos (by decide +kernel)]; kernel_rfl) | (rw [if_neg (by decide +kernel)]; exact ⟨rfl, rfl⟩))
    (fun os started H enc _ => lifted os started H enc)
end Go.Proofs.YtbahpbinilnfoaaDoor.showLong
namespace Go.Proofs.YtbahpbinilnfoaaDoor
theorem showLong_holds : Rows.ShowLongCardSaid :=
  Claim7.holds_tied_plain_at .later [] [.data, .data, .data, .data, .data] true Rows.showLongCard.stood.harness false
    showLong.over (fun _ h => by cases h) (by kernel_rfl) (fun _ h => by cases h) showLong_row_tie rfl ⟨rfl, rfl⟩ (by kernel_rfl) rfl
    (fun f fn hf hfn => by
      obtain rfl : f = 3 := Option.some.inj ((show Tryd.prog.funcNamed "carillon/carillonlaw05.ShowLong" = some 3 by kernel_rfl).symm.trans hf) |>.symm
      obtain rfl : fn = Tryd.f3 := (Option.some.inj (Tryd.func3.symm.trans hfn)).symm
      exact ⟨by kernel_rfl, fun j t ht => by
        rw [Tryd.params3] at ht
        obtain rfl : t = 22 := by simpa using Array.mem_of_getElem? ht
        exact (show Tryd.prog.wantsStandIn 22 = false by kernel_rfl)⟩)
    (by kernel_rfl)
#print axioms showLong_holds
end Go.Proofs.YtbahpbinilnfoaaDoor
