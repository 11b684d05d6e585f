/- The program's text: what a writer puts together, if it is not too long. -/
import Derived.Test.YtbahpbinilnfoaaDoorShowKit
namespace Go.Proofs.YtbahpbinilnfoaaDoor
open Go.RowKit
attribute [local go_sem] later_size later_cell later_frozen later_setCell later_drew later_drewN later_tape drewN_setCell drewN_alloc drewN_later later_later lt_more lt_more1 lt_more2 lt_more3 lt_more4 lk0_0_1 lk1_0_1 lk2_0_1 lk0_0_2 lk1_0_2 lk2_0_2 lk0_1_2 lk0_0_3 lk1_0_3 lk2_0_3 lk0_1_3 lk0_2_3 lk0_0_4 lk1_0_4 lk2_0_4 lk0_1_4 lk0_2_4 lk0_3_4 lk0_0_5 lk1_0_5 lk2_0_5 lk0_1_5 lk0_2_5 lk0_3_5 lk0_4_5 lk0_0_6 lk1_0_6 lk2_0_6 lk0_1_6 lk0_2_6 lk0_3_6 lk0_4_6 lk0_5_6 lk0_0_7 lk1_0_7 lk2_0_7 lk0_1_7 lk0_2_7 lk0_3_7 lk0_4_7 lk0_5_7 lk0_6_7
/-- What is answered of a text. -/
def outOf (t : List UInt8) : ByteArray × Int := if 65536 < t.length then (⟨#[]⟩, 4) else (⟨t.toArray⟩, 0)
theorem len_calls {W w : World} {b : Nat} {s : List UInt8} (h : Writes W b s w) : Calls Tryd.prog 21 #[.pointer (some ⟨b, 0, none⟩)] w fun e w' => e = .returned (.int .i64 s.length) ∧ w' = w := by
  have C := Any.Builder_Len_f Tryd.lays170 W.heap.size b (Lib.byteCells s) w h.bld
  rw [Lib.byteCells_length] at C
  exact C
theorem Tryd.builderExtra169 : Builder.Extra Tryd.prog Tryd.lays169_ren where
  sizeBuilder := by kernel_rfl
  liesBuilder := by kernel_rfl
  t5 := Tryd.underlying5
  a5 := Tryd.isAgg5
  z5 := Tryd.sizeOf5
  v5 := Tryd.zeroValue5
  infoByte := by kernel_rfl
  cellsByte := by kernel_rfl
  sizeByte := by kernel_rfl
  neB5 := by decide
theorem string_calls {W w : World} {b : Nat} {s : List UInt8} (h : Writes W b s w) : Calls Tryd.prog 22 #[.pointer (some ⟨b, 0, none⟩)] w fun e w' => e = .returned (.string ⟨s.toArray⟩) ∧ Below W.heap.size w w' := by
  have C := Any.Builder_String_any_k Tryd.lays169 Tryd.builderExtra169 W.heap.size b s w h.bld h.size
  refine Calls.mono C ?_
  rintro e w' ⟨rfl, -, hb, -⟩
  exact ⟨rfl, hb⟩
set_option maxRecDepth 100000 in
set_option maxHeartbeats 3200000 in
/-- text, if the writer writes T. -/
theorem text_calls (fn : Nat) (caps : Array Value) (T : List UInt8) (w : World) (hT : T.length ≤ 1000000000) (hent : ∀ args w, (callFunc fn args).run Tryd.prog w = .ok (.enter fn args) w)
    (hw : ∀ b w1, Writes w b [] w1 → b = w.heap.size → Calls Tryd.prog fn (#[pv b] ++ caps) w1 fun x w' => x = .returned (.tuple #[]) ∧ Writes w b T w') :
    Calls Tryd.prog 10 #[.func (.func fn) #[] caps] w fun x w' => x = .returned (.tuple #[.string (outOf T).1, .int .i64 (outOf T).2]) ∧ Below w.heap.size w w' := by
  obtain ⟨W0, hW0⟩ : ∃ W0 : World, W0 = w.alloc (.cells #[.pointer none, .slice none 0 0] 61) := ⟨_, rfl⟩
  have HS0 : Hid (W0.heap.size = w.heap.size + 1) := by rw [Hid, hW0]; simp
  have HW0 : Hid (Writes w w.heap.size [] W0) := by
    rw [Hid, hW0]
    exact ⟨(Below.refl _ _).alloc (Nat.le_refl _) _, Lib.IsBuilderF.of (Lib.fresh_isBuilder _ _ w)⟩
  have CW := hw w.heap.size W0 HW0.out rfl
  simp only [pv] at CW
  have HE0 : Hid _ := hW0
  obtain ⟨tl, htl⟩ : ∃ tl, tl = T.length := ⟨_, rfl⟩
  have HTL : Hid _ := htl
  rw [← htl] at hT
  have HO : Hid (outOf T = if 65536 < tl then (⟨#[]⟩, 4) else (⟨T.toArray⟩, 0)) := by rw [Hid, outOf, htl]
  clear hW0 hw htl
  generalize outOf T = out at *
  obtain ⟨o1, o2⟩ := out
  go_enter Tryd.func10, Tryd.ntmps10
  go_wp2_with fail
  rw [← HE0.out]
  refine CW.mono ?_
  rintro x w1 ⟨rfl, hw1⟩
  have HW1 : Hid _ := hw1
  have CL := len_calls hw1
  rw [← HTL.out] at CL
  have CS := string_calls hw1
  clear CW hw1
  by_cases hlt : 65536 < tl
  · have HO2 : Hid ((o1, o2) = ((⟨#[]⟩, 4) : ByteArray × Int)) := by rw [Hid, HO.out, if_pos hlt]
    go_wp2_with fail
    refine CL.mono ?_
    rintro x w2 ⟨rfl, rfl⟩
    clear CL CS
    go_wp2_with fail
    go_ret2
    have h2 := HO2.out
    simp only [Prod.mk.injEq] at h2
    obtain ⟨rfl, rfl⟩ := h2
    exact ⟨rfl, HW1.out.bel⟩
  · have HO2 : Hid ((o1, o2) = ((⟨T.toArray⟩, 0) : ByteArray × Int)) := by rw [Hid, HO.out, if_neg hlt]
    go_wp2_with fail
    refine CL.mono ?_
    rintro x w2 ⟨rfl, rfl⟩
    clear CL
    go_wp2_with fail
    refine CS.mono ?_
    rintro x w3 ⟨rfl, hb3⟩
    have HB3 : Hid _ := hb3
    clear CS hb3
    go_wp2_with fail
    go_ret2
    have h2 := HO2.out
    simp only [Prod.mk.injEq] at h2
    obtain ⟨rfl, rfl⟩ := h2
    exact ⟨rfl, HW1.out.bel.trans HB3.out⟩
end Go.Proofs.YtbahpbinilnfoaaDoor
