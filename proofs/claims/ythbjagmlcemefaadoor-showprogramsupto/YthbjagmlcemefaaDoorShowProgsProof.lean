/- PROVED: ShowPrograms, for every program whose bulk is at most 1048576: the call returns true and the program reads as it did (the second form's card: 'Upto'); five tables (two of math/bits, one of strconv, the program's argCount and twos) as the program's text lays them. -/
import Derived.Test.YthbjagmlcemefaaDoorTreeKit
import Derived.Test.YthbjagmlcemefaaDoorShowTabs
import Derived.Test.YthbjagmlcemefaaDoorShowAlive
import Derived.Test.YthbjagmlcemefaaDoorShowOpens
import Derived.Test.YthbjagmlcemefaaDoorRefNodeProg
namespace Go.Proofs.YthbjagmlcemefaaDoor
open Go.RowKit
open Ex.size Ex.depth Ex.lies Ex.bulk Ex.good Ex.shape Ex.text
attribute [local go_sem] later_size later_cell later_frozen later_setCell later_drew later_drewN later_tape drewN_setCell drewN_alloc drewN_later later_later lt_more lt_more1 lt_more2 lt_more3 lt_more4 lk0_0_1 lk1_0_1 lk2_0_1 lk0_0_2 lk1_0_2 lk2_0_2 lk0_1_2 lk0_0_3 lk1_0_3 lk2_0_3 lk0_1_3 lk0_2_3 lk0_0_4 lk1_0_4 lk2_0_4 lk0_1_4 lk0_2_4 lk0_3_4 lk0_0_5 lk1_0_5 lk2_0_5 lk0_1_5 lk0_2_5 lk0_3_5 lk0_4_5 lk0_0_6 lk1_0_6 lk2_0_6 lk0_1_6 lk0_2_6 lk0_3_6 lk0_4_6 lk0_5_6 lk0_0_7 lk1_0_7 lk2_0_7 lk0_1_7 lk0_2_7 lk0_3_7 lk0_4_7 lk0_5_7 lk0_6_7
set_option maxRecDepth 100000 in
set_option maxHeartbeats 12800000 in
theorem progs_walk (l : List Nd) (a : Option Addr) (cap : Nat) (hg : Goods l) (hm : ∀ n ∈ l, n.nums) (w : World) (hl : Lie w a l) (ht : Tabs w) : Calls Tryd.prog 7 #[.agg #[.slice a l.length cap]] w fun x w' => x = .returned (.bool true) ∧ Below w.heap.size w w' := by
  obtain ⟨W0, hW0⟩ : ∃ W0 : World, W0 = w.alloc (.cells #[.slice a l.length cap] 25) := ⟨_, rfl⟩
  have hb0 : Below w.heap.size w W0 := by rw [hW0]; exact (Below.refl _ _).alloc (Nat.le_refl _) _
  have HS0 : Hid (W0.heap.size = w.heap.size + 1) := by rw [Hid, hW0]; simp
  have hx0 : W0.cell? ⟨w.heap.size, 0, none⟩ = some (.slice a l.length cap) := by rw [hW0, World.cell?_alloc_at _ _ _ _ rfl]; rfl
  have hl0 := hl.below hb0
  have ht0 := ht.below hb0
  have CL := large_calls l a cap hg W0 hl0
  have HA : Hid (∀ w', Below W0.heap.size W0 w' → Calls Tryd.prog 27 #[] w' fun x w'' => x = .returned (.bool true) ∧ Below w'.heap.size w' w'') := fun w' h => show_alive w' (ht0.below h)
  have HP : Hid (∀ w', Below W0.heap.size W0 w' → Calls Tryd.prog 30 #[.agg #[.slice a l.length cap]] w' fun x w'' => x = .returned (.tuple #[.string (progOut l).1, .int .i64 (progOut l).2]) ∧ Below w'.heap.size w' w'') := fun w' h => program_prog l a cap hg hm w' (hl0.below h) (ht0.below h).tab (ht0.below h).pow (ht0.below h).twos (ht0.below h).ng
  have HR : Hid (∀ w', Below W0.heap.size W0 w' → Calls Tryd.prog 31 #[.agg #[.slice a l.length cap]] w' fun x w'' => x = .returned (.tuple #[.string (progOut l).1, .int .i64 (progOut l).2]) ∧ Below w'.heap.size w' w'') := fun w' h => program_ref l a cap hg hm w' (hl0.below h)
  have HB0 : Hid (Below w.heap.size w W0) := hb0
  generalize progOut l = o at *
  obtain ⟨o1, o2⟩ := o
  generalize l.length = n at *
  have HBox : Hid (∀ w', Hid (Below W0.heap.size W0 w') → w'.cell? ⟨w.heap.size, 0, none⟩ = some (.slice a n cap)) := fun w' h => (h.out.cell (p := ⟨w.heap.size, 0, none⟩) (World.block_lt_of_cell? _ ⟨w.heap.size, 0, none⟩ hx0)).trans hx0
  have bl : Hid (∀ (w' w'' : World), Hid (Below W0.heap.size W0 w') → Below w'.heap.size w' w'' → Hid (Below W0.heap.size W0 w'')) := fun w' w'' h1 h2 => h1.out.trans (h2.mono h1.out.size)
  have HE0 : Hid _ := hW0
  clear hb0 hx0 hl0 ht0 hl ht hg hm hW0
  go_enter Tryd.func7, Tryd.ntmps7
  go_wp2_with fail
  rw [← HE0.out]
  refine CL.mono ?_
  rintro x w1 ⟨⟨q, rfl⟩, hb1⟩
  have K1 : Hid (Below W0.heap.size W0 w1) := hb1
  have y1 := HBox.out w1 K1
  clear CL hb1
  cases q
  · have C2 := HP.out w1 K1.out
    go_wp2_with fail
    refine C2.mono ?_
    rintro x w2 ⟨rfl, hb2⟩
    have K2 := bl.out _ w2 K1 hb2
    have y2 := HBox.out w2 K2
    clear C2 hb2 y1
    have C3 := HR.out w2 K2.out
    go_wp2_with fail
    refine C3.mono ?_
    rintro x w3 ⟨rfl, hb3⟩
    have K3 := bl.out _ w3 K2 hb3
    clear C3 hb3 y2
    have C4 := HA.out w3 K3.out
    go_wp2_with fail
    refine C4.mono ?_
    rintro x w4 ⟨rfl, hb4⟩
    have K4 := bl.out _ w4 K3 hb4
    clear C4 hb4
    go_wp2_with fail
    go_ret
    exact ⟨rfl, HB0.out.trans (K4.out.mono (by have := HS0.out; omega))⟩
  · have C2 := HA.out w1 K1.out
    go_wp2_with fail
    refine C2.mono ?_
    rintro x w2 ⟨rfl, hb2⟩
    have K2 := bl.out _ w2 K1 hb2
    clear C2 hb2
    go_wp2_with fail
    go_ret
    exact ⟨rfl, HB0.out.trans (K2.out.mono (by have := HS0.out; omega))⟩
end Go.Proofs.YthbjagmlcemefaaDoor
namespace Go.Proofs.YthbjagmlcemefaaDoor.showPrograms
open Go.ChangeShapes Go.WideShapes Go.ChangeAt Go.RowKit
open Ex.size Ex.depth Ex.lies Ex.bulk Ex.good
set_option maxRecDepth 100000 in
theorem contract (H : Type) (enc : TypeId × Value → H) (W : World) (base : Nat) (args : Array Value) (ds gs : List (DataW H)) (before : List MemPlace)
    (hval : ∀ (j : Nat) t v, Tryd.f7.params[j]? = some t → args[j]? = some v → Value.okWide Tryd.prog W .any base t v)
    (hW : DataW.Whole enc Tryd.prog Tryd.f7.params.toList Rows.showProgramsSpec.vars false W args.toList ds gs before) (hL : laidMetH Tryd.prog Rows.showProgramsUptoRow.laid W) (hbk : Rows.uptoSmall H (ds ++ gs) = true) :
    Calls Tryd.prog 7 args W fun e W' => ∃ v, e = .returned v ∧ Rows.showProgramsSpec.post enc Tryd.prog Tryd.f7 false true false false W args v W' := by
  have hW' := hW
  obtain ⟨p, q, hA0, hV, rfl, hfz, hnd⟩ := hW
  have hA : DataW.TrodAll enc Tryd.prog W 0 (fun _ => true) true Tryd.f7.params.toList args.toList ds p := hA0
  rw [Tryd.params7] at hA hval
  obtain ⟨v0, vs0, d0, ds0, p0, q0, hargs, rfl, rfl, h0, r0⟩ := trodAll_cons hA
  obtain ⟨rfl, rfl, rfl⟩ := trodAll_nil r0
  obtain rfl : args = #[v0] := by cases args; simp_all
  obtain ⟨rfl, rfl⟩ := trodVars_none hV
  have hbulk : Rows.uptoBulk d0 ≤ 1048576 := by
    have h := of_decide_eq_true hbk
    simp only [List.append_nil, Rows.uptoBulkAll] at h
    omega
  obtain ⟨a, l, cap, rfl, hl, hg, hm⟩ := opens_prog (hval 0 25 v0 rfl rfl) h0 hbulk
  clear hA0
  simp only [List.append_nil] at hW'
  have hlt : ∀ x ∈ p0, x.block < W.heap.size := fun x hx => hW'.lt x hx
  refine (progs_walk l a cap hg hm W hl (tabs_of hL)).mono fun r W' ⟨hr, hbl⟩ => ?_
  subst hr
  exact ⟨_, rfl, _, _, _, [], p0, [], hW', trodAll_mk1 (shut_bool Tryd.underlying4 _), by
    have := trodAll_cons_mk (Below.trod (enc := enc) seatLaid (by kernel_rfl) (of_decide_eq_true (by kernel_rfl)) h0 hbl hlt) (trodAll_mk0 (enc := enc))
    rw [List.append_nil] at this
    exact this, rfl, hbl.frame _, fun h => by cases h⟩
theorem laid_met (os : Os) : laidMet Tryd.prog Rows.showProgramsUptoRow.laid ((World.doorLaid Tryd.prog 400 os).forCall (fun _ _ => 0) ⟨#[], #[.agg #[.slice none 0 0]], []⟩).memory :=
  laidMet_of_run' 8 (by kernel_rfl) (by kernel_rfl)
theorem reads (os : Os) {H : Type} (enc : TypeId × Value → H) : ∃ places, DataW.whole enc Tryd.prog ((World.doorLaid Tryd.prog 400 os).forCall (fun _ _ => 0) ⟨#[], #[.agg #[.slice none 0 0]], []⟩).memory Tryd.f7.params.toList Rows.showProgramsSpec.vars false #[Value.agg #[.slice none 0 0]].toList 8 = some ([.agg [.nil]], [], places) :=
  ⟨[], by kernel_rfl⟩
set_option maxRecDepth 100000 in
theorem lifted (os : Os) (started : os.Started) (H : Type) (enc : TypeId × Value → H) (F : Stop.Interp) :
    ReturnsInHanded {} Tryd.checked os 7 .any ((Rows.OpenSpec.upto Rows.showProgramsSpec).preRow enc Tryd.prog Tryd.f7 Rows.showProgramsUptoRow.domain false Rows.showProgramsUptoRow.laid) (((Rows.OpenSpec.upto Rows.showProgramsSpec).at F).post enc Tryd.prog Tryd.f7 false true false false) := by
  obtain ⟨places, hx⟩ := reads os enc
  refine returnsInHanded_of_row (C := Tryd.checked) (s := Rows.OpenSpec.upto Rows.showProgramsSpec) seatOwn started (by kernel_rfl) Tryd.func7
    (witness_row_at (enc := enc) (C := Tryd.checked) false (World.doorLaid Tryd.prog 400 os) #[.agg #[.slice none 0 0]] rfl (by kernel_rfl) (by kernel_rfl) (by kernel_rfl)
      (OpenSpec.preRow_of_cond 8 hx (by kernel_rfl) (fun k hk => by cases hk; kernel_rfl) (by kernel_rfl) (laid_met os))) ?_
  intro W base args ds gs before hval hW _ hcond _ hL _ _
  exact contract H enc W base args ds gs before hval hW hL (hcond _ rfl)
theorem over : Rows.ShowProgramsUptoSaid :=
  OpenClaim.holds_of_cond 7 Tryd.f7 rfl rfl rfl rfl rfl rfl rfl ⟨rfl, rfl, rfl, rfl, rfl⟩ rfl rfl rfl rfl rfl (by kernel_rfl) Tryd.func7 (by kernel_rfl)
    (of_decide_eq_true (by kernel_rfl)) (by unfold Func.isWrapper; first | (rw [if_pos (by decide +kernel)]; kernel_rfl) | (rw [if_neg (by decide +kernel)]; exact ⟨rfl, rfl⟩))
    (fun os started H enc _ F => by rw [OpenClaim.pre_eq_preRow]; exact lifted os started H enc F)
theorem plain (f : FuncId) (fn : Func) (hf : Tryd.pinned.checked.prog.funcNamed "carillon/carillonlaw05.ShowPrograms" = some f) (hfn : Tryd.pinned.checked.prog.funcs[f]? = some fn) :
    false = Tryd.pinned.checked.prog.looks [] ∧ ∀ (j : Nat) t, fn.params[j]? = some t → Tryd.pinned.checked.prog.wantsStandIn t = false := by
  obtain rfl : f = 7 := Option.some.inj ((show Tryd.prog.funcNamed "carillon/carillonlaw05.ShowPrograms" = some 7 by kernel_rfl).symm.trans hf) |>.symm
  obtain rfl : fn = Tryd.f7 := (Option.some.inj (Tryd.func7.symm.trans hfn)).symm
  refine ⟨by kernel_rfl, fun j t ht => ?_⟩
  rw [Tryd.params7] at ht
  obtain rfl : t = 25 := by simpa using Array.mem_of_getElem? ht
  exact (show Tryd.prog.wantsStandIn 25 = false by kernel_rfl)
end Go.Proofs.YthbjagmlcemefaaDoor.showPrograms
namespace Go.Proofs.YthbjagmlcemefaaDoor
theorem showPrograms_holds : Rows.ShowProgramsUptoCardSaid :=
  Claim7.holds_tied_plain_at .later [] _ _ _ _ showPrograms.over (fun _ h => by cases h) (by kernel_rfl) (fun _ h => by cases h) showProgramsUpto_row_tie rfl ⟨rfl, rfl⟩ (by kernel_rfl) rfl showPrograms.plain (by kernel_rfl)
#print axioms showPrograms_holds
end Go.Proofs.YthbjagmlcemefaaDoor
