/- For every text the statement LexTokens answers true: Tokens of package lex answers as the document asks, with its faults. No condition but that the listed package variables of Go's library start as the program's text lays them. -/
import Derived.Test.YtcgfpoaacalfbaaGreatDoorRows
import Derived.Test.YtcgfpoaacalfbaaGreatDoorCards
import Derived.Test.YtcgfpoaacalfbaaGreatDoorTie
import Derived.Test.YtcgfpoaacalfbaaGreatDoorLexAlive
import Derived.Test.YtcgfpoaacalfbaaGreatDoorLexTokens
import Derived.Test.YtcgfpoaacalfbaaGreatDoorLexSame
import Derived.Test.YtcgfpoaacalfbaaGreatDoorLexTold
import Derived.Test.YtcgfpoaacalfbaaGreatDoorLaidSix
import Derived.ProofKit
import Derived.ChangeSame
import Derived.ChangeVars
import Derived.JoinedOf
import Derived.RowKit
import Derived.RowKitTokens
import Derived.LaidLaws
import Derived.LaidHandle
import Derived.Stop.Joined
import Derived.SevenTiedAt
namespace Go.Proofs.YtcgfpoaacalfbaaGreatDoor.lexTokens
open Go.ChangeShapes Go.WideShapes Go.ChangeAt Go.RowKit
open Go.ChangeMaps (open_string shut_string)
attribute [local go_sem] later_size later_cell later_frozen later_setCell later_drew later_drewN later_tape drewN_setCell drewN_alloc drewN_later later_later lt_more lt_more1 lt_more2 lt_more3 lt_more4 lk0_0_1 lk1_0_1 lk2_0_1 lk0_0_2 lk1_0_2 lk2_0_2 lk0_1_2 lk0_0_3 lk1_0_3 lk2_0_3 lk0_1_3 lk0_2_3 lk0_0_4 lk1_0_4 lk2_0_4 lk0_1_4 lk0_2_4 lk0_3_4 lk0_0_5 lk1_0_5 lk2_0_5 lk0_1_5 lk0_2_5 lk0_3_5 lk0_4_5 lk0_0_6 lk1_0_6 lk2_0_6 lk0_1_6 lk0_2_6 lk0_3_6 lk0_4_6 lk0_5_6 lk0_0_7 lk1_0_7 lk2_0_7 lk0_1_7 lk0_2_7 lk0_3_7 lk0_4_7 lk0_5_7 lk0_6_7
theorem own : ownKnob Tryz.prog.godebug = none := by kernel_rfl
theorem keep {B : Nat} {ty : TypeId} {v : Value} {n : Nat} {xs : List Value} {w w' : World} (h : w.ownsRow B ty 4 v n xs) (hb : Below w.heap.size w w') : w'.ownsRow B ty 4 v n xs := by
  refine ⟨h.1, ?_⟩
  rcases h.2 with h | ⟨g, cap, cur, hv, hb0, hg, rest⟩
  · exact .inl h
  · refine .inr ⟨g, cap, cur, hv, hb0, ?_, rest⟩
    rw [hb.block g]
    · exact hg
    · rcases Nat.lt_or_ge g w.heap.size with hlt | hge
      · exact hlt
      · rw [Array.getElem?_eq_none hge] at hg; cases hg
set_option maxHeartbeats 1600000 in
theorem walk (s : ByteArray) (w : World) (hg : w.cell? ⟨0, 0, none⟩ = some (.iface 85 (.agg #[.pointer (some ⟨7, 25, none⟩)]))) (hr : RangeVar w) :
    Calls Tryz.prog 3 #[.string s] w fun e w' => e = .returned (.bool true) ∧ Below w.heap.size w w' := by
  have HR : Hid (RangeVar w) := hr
  clear hr
  have hlt : 0 < w.heap.size := by
    rcases Nat.eq_zero_or_pos w.heap.size with h | h
    · simp [World.cell?, h] at hg
    · exact h
  by_cases hs : s.size ≤ 4096
  · have hq : decide ((4096 : Int) < (s.size : Int)) = false := by simp; omega
    have hlen := lex_len s
    have CA := lexTokens_calls s w (by omega) HR.out
    have CB := fun W => tokens_calls s W (by omega)
    obtain ⟨l, k, er, hL⟩ : ∃ l k er, lexOf s = (l, k, er) := ⟨_, _, _, rfl⟩
    rw [hL] at CA hlen
    simp only [hL] at CB
    have HLen : Hid (l.length ≤ 16384) := hlen
    clear hL hlen
    have T : ∃ ev, (if er = 0 then Value.nilIface else wrongVal k er) = ev ∧ ∀ W : World, W.cell? ⟨0, 0, none⟩ = some (.iface 85 (.agg #[.pointer (some ⟨7, 25, none⟩)])) → Calls Tryz.prog 8 #[ev, .agg #[.int .i64 k, .int .i64 er]] W fun e w' => e = .returned (.bool true) ∧ Below W.heap.size W w' := by
      by_cases h0 : er = 0
      · refine ⟨_, if_pos h0, fun W hW => ?_⟩
        subst h0
        exact (told_none k W).mono fun e w' h => ⟨h.1, h.2.below⟩
      · refine ⟨_, if_neg h0, fun W hW => ?_⟩
        exact told_wrong k er W h0 hW
    obtain ⟨ev, hev, CT⟩ := T
    rw [hev] at CA
    clear hev
    go_enter Tryz.func3, Tryz.ntmps3
    go_wp2_with fail
    refine CA.mono ?_
    rintro e w1 ⟨va, rfl, hoa, hb1⟩
    clear CA
    have HA1 : Hid (w1.ownsRow w.heap.size 39 4 va l.length (toksCells l)) := hoa
    have HB1 : Hid (Below w.heap.size w w1) := hb1
    clear hoa hb1
    go_wp2_with fail
    refine (CB _).mono ?_
    rintro e w2 ⟨vb, rfl, hob, hb2⟩
    clear CB
    have HA2 : Hid (w2.ownsRow w.heap.size 39 4 va l.length (toksCells l)) := keep HA1.out hb2
    have HO2 : Hid (w2.ownsRow w1.heap.size 39 4 vb l.length (toksCells l)) := hob
    have HB2 : Hid (Below w.heap.size w w2) := HB1.out.trans (hb2.mono HB1.out.size)
    clear hob hb2 HA1 HB1
    go_wp2_with fail
    refine (same_calls l _ _ _ va vb HLen.out (HA2.out.alloc _) (HO2.out.alloc _)).mono ?_
    rintro e w3 ⟨rfl, hg3⟩
    have c0 : w3.cell? ⟨w2.heap.size, 0, none⟩ = some (.int .i64 k) := (hg3.below.cell (p := ⟨w2.heap.size, 0, none⟩) (by simp)).trans (by simp)
    have c1 : w3.cell? ⟨w2.heap.size, 1, none⟩ = some (.int .i64 er) := (hg3.below.cell (p := ⟨w2.heap.size, 1, none⟩) (by simp)).trans (by simp)
    have HB3 : Hid (Below w.heap.size w w3) := (HB2.out.alloc HB2.out.size _).trans (hg3.below.mono (by have := HB2.out.size; simp; omega))
    clear hg3 HB2 HA2 HO2
    have hg0 : w3.cell? ⟨0, 0, none⟩ = some (.iface 85 (.agg #[.pointer (some ⟨7, 25, none⟩)])) := (HB3.out.cell (p := ⟨0, 0, none⟩) hlt).trans hg
    have CT3 := CT w3 hg0
    clear CT hg0
    go_wp2_with fail
    refine CT3.mono ?_
    rintro e w4 ⟨rfl, hb4⟩
    have HB4 : Hid (Below w.heap.size w w4) := HB3.out.trans (hb4.mono HB3.out.size)
    clear CT3 hb4 HB3 c0 c1
    go_wp2_with fail
    refine (alive_calls _ (RangeVar.below HR.out HB4.out)).mono ?_
    rintro e w5 ⟨rfl, hb5⟩
    have HB5 : Hid (Below w.heap.size w w5) := HB4.out.trans (hb5.mono HB4.out.size)
    clear hb5 HB4
    go_wp2
    go_returns
    exact ⟨rfl, HB5.out⟩
  · have hq : decide ((4096 : Int) < (s.size : Int)) = true := by simp; omega
    go_enter Tryz.func3, Tryz.ntmps3
    go_wp2_with fail
    refine (alive_calls _ HR.out).mono ?_
    rintro e w2 ⟨rfl, hb⟩
    have HB2 : Hid _ := hb
    clear hb
    go_wp2
    go_returns
    exact ⟨rfl, HB2.out⟩

set_option maxRecDepth 100000 in
theorem lifted (os : Os) (started : os.Started) (H : Type) (enc : TypeId × Value → H) :
    ReturnsInHanded {} Tryz.checked os 3 .any (fun w args => (Rows.lexTokensSpec.pre enc Tryz.prog Tryz.f3 [] false w args ∧ laidMetH Tryz.prog laid6 w) ∧ sizedMet enc Tryz.prog Tryz.f3 (OpenSpec.ofChange Rows.lexTokensSpec) false w args)
      (Rows.lexTokensSpec.post enc Tryz.prog Tryz.f3 false true false false) := by
  refine returnsInHanded_of_change_and (C := Tryz.checked) (X := fun w _ => laidMetH Tryz.prog laid6 w) (fun _ _ _ hh h => h.of_heap hh) own started (by kernel_rfl) Tryz.func3
    (ChangeSpec.witness_shaped (enc := enc) (C := Tryz.checked) (os := os) (X := fun w _ => laidMetH Tryz.prog laid6 w) false (World.doorLaid Tryz.prog 400 os) #[.string ByteArray.empty] 8 rfl (World.shaped_of_RefB (by kernel_rfl) (by kernel_rfl)) (by kernel_rfl) (by kernel_rfl) (by kernel_rfl) (door6 os _)) ?_
  intro W base args ds gs before hval0 hW _ _ hL _
  have hval : ∀ (j : Nat) t v, Tryz.f3.params[j]? = some t → args[j]? = some v → Value.okWide Tryz.prog W .any base t v := hval0
  have hW' := hW
  obtain ⟨p, q, hA0, hV0, rfl, hfz, hnd⟩ := hW
  have hA : DataW.TrodAll enc Tryz.prog W 0 (fun _ => true) true Tryz.f3.params.toList args.toList ds p := hA0
  rw [Tryz.params3] at hA hval
  obtain ⟨v0, vs0, d0, ds0, p0, q0, hargs, rfl, rfl, h0, r0⟩ := trodAll_cons hA
  obtain ⟨rfl, rfl, rfl⟩ := trodAll_nil r0
  obtain rfl : args = #[v0] := by cases args; simp_all
  obtain ⟨rfl, rfl⟩ := trodVars_none hV0
  obtain ⟨s, rfl, rfl, rfl, ws⟩ := open_string Tryz.underlying9 (hval 0 9 v0 rfl rfl) h0
  obtain ⟨hr, hg⟩ := six_of hL
  clear hA0 hval0
  simp only [List.append_nil] at hW'
  refine (walk s W hg hr).mono fun e W' ⟨he, hb⟩ => ?_
  subst he
  exact ⟨_, rfl, _, _, _, [], [], [], hW', trodAll_mk1 (shut_bool Tryz.underlying4 _), trodAll_cons_mk (shut_string Tryz.underlying9 ws) trodAll_mk0, rfl, hb.frame _, fun h => by cases h⟩

theorem over : Rows.LexTokensSaid :=
  OpenClaim.holds_of_wide 3 Tryz.f3 rfl rfl rfl rfl rfl rfl rfl ⟨rfl, rfl, rfl, rfl, rfl⟩ rfl rfl rfl rfl rfl (by kernel_rfl) Tryz.func3 (by kernel_rfl)
    (of_decide_eq_true (by kernel_rfl)) (by unfold Func.isWrapper; first | (rw [if_pos (by decide +kernel)]; kernel_rfl) | (rw [if_neg (by decide +kernel)]; exact ⟨rfl, rfl⟩))
    (fun os started H enc _ => lifted os started H enc)
end Go.Proofs.YtcgfpoaacalfbaaGreatDoor.lexTokens
namespace Go.Proofs.YtcgfpoaacalfbaaGreatDoor
theorem lexTokens_holds : Rows.LexTokensCardSaid :=
  Claim7.holds_tied_plain_at .later [] [.data, .data, .data, .handle, .sentinel, .sentinel] true Rows.lexTokensCard.stood.harness true
    lexTokens.over (fun _ h => by cases h) (by kernel_rfl) (fun _ h => by cases h) lexTokens_row_tie rfl ⟨rfl, rfl⟩ (by kernel_rfl) rfl
    (fun f fn hf hfn => by
      obtain rfl : f = 3 := Option.some.inj ((show Tryz.prog.funcNamed "carillon/carillonlaw03.LexTokens" = some 3 by kernel_rfl).symm.trans hf) |>.symm
      obtain rfl : fn = Tryz.f3 := (Option.some.inj (Tryz.func3.symm.trans hfn)).symm
      exact ⟨by kernel_rfl, fun j t ht => by
        rw [Tryz.params3] at ht
        have h9 : t = 9 := by
          rcases j with _ | j
          · simpa using ht.symm
          · simp at ht
        subst h9
        exact (show Tryz.prog.wantsStandIn 9 = false by kernel_rfl)⟩)
    (by kernel_rfl)
#print axioms lexTokens_holds
end Go.Proofs.YtcgfpoaacalfbaaGreatDoor
