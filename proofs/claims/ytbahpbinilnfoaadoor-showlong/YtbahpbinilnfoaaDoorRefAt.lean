/- The document's answer of layer 5: at. -/
import Derived.Test.YtbahpbinilnfoaaDoorRefNum
import Derived.Test.YtbahpbinilnfoaaDoorRefStrong
import Derived.Test.YtbahpbinilnfoaaDoorRefSign
import Derived.Test.YtbahpbinilnfoaaDoorShowLen
namespace Go.Proofs.YtbahpbinilnfoaaDoor
open Go.RowKit
open Ex.size Ex.depth Ex.lies Ex.bulk Ex.good Ex.shape Ex.text
attribute [local go_sem] later_size later_cell later_frozen later_setCell later_drew later_drewN later_tape drewN_setCell drewN_alloc drewN_later later_later lt_more lt_more1 lt_more2 lt_more3 lt_more4 lk0_0_1 lk1_0_1 lk2_0_1 lk0_0_2 lk1_0_2 lk2_0_2 lk0_1_2 lk0_0_3 lk1_0_3 lk2_0_3 lk0_1_3 lk0_2_3 lk0_0_4 lk1_0_4 lk2_0_4 lk0_1_4 lk0_2_4 lk0_3_4 lk0_0_5 lk1_0_5 lk2_0_5 lk0_1_5 lk0_2_5 lk0_3_5 lk0_4_5 lk0_0_6 lk1_0_6 lk2_0_6 lk0_1_6 lk0_2_6 lk0_3_6 lk0_4_6 lk0_5_6 lk0_0_7 lk1_0_7 lk2_0_7 lk0_1_7 lk0_2_7 lk0_3_7 lk0_4_7 lk0_5_7 lk0_6_7
/-- The document's Text, at. -/
def RText (e : Ex) : Prop := ∀ w, e.lies w → Calls Tryd.prog 30 #[e.val] w fun x w' => x = .returned (.string ⟨e.text.toArray⟩) ∧ Below w.heap.size w w'
def RAt (e : Ex) (n : Int) : Prop := ∀ w, e.lies w → Calls Tryd.prog 50 #[e.val, .int .i64 n] w fun x w' => x = .returned (.string ⟨(par n (e.kd, e.text)).toArray⟩) ∧ Below w.heap.size w w'
structure TextIs (W0 : World) (fn : Nat) (args : Array Value) (t : List UInt8) : Prop where
  out : ∀ w', Hid (Below W0.heap.size W0 w') → Calls Tryd.prog fn args w' fun r w'' => r = .returned (.string ⟨t.toArray⟩) ∧ Below w'.heap.size w' w''
theorem strong_cmp (kd : Int) (h : 12 ≤ kd) (h1 : kd ≤ 17) : strong kd = 5 := by unfold strong; rw [if_neg (by omega), if_neg (by omega), if_neg (by omega), if_neg (by omega), if_neg (by omega), if_pos (by omega)]
theorem wrap_small {z : Int} (h0 : 0 ≤ z) (h1 : z ≤ 8) : IntKind.i64.wrap (z + 1) = z + 1 := by
  have : z = 0 ∨ z = 1 ∨ z = 2 ∨ z = 3 ∨ z = 4 ∨ z = 5 ∨ z = 6 ∨ z = 7 ∨ z = 8 := by omega
  rcases this with rfl | rfl | rfl | rfl | rfl | rfl | rfl | rfl | rfl <;> rfl
theorem keep_cell {W : World} {a o : Nat} {v : Value} (c : W.cell? ⟨a, o, none⟩ = some v) : ∀ w', Hid (Below W.heap.size W w') → w'.cell? ⟨a, o, none⟩ = some v := fun _ h => (h.out.cell (p := ⟨a, o, none⟩) (World.block_lt_of_cell? W ⟨a, o, none⟩ c)).trans c
theorem grow_on {W w' w'' : World} (h : Hid (Below W.heap.size W w')) (k : Below w'.heap.size w' w'') : Hid (Below W.heap.size W w'') := h.out.trans (k.mono h.out.size)
set_option maxRecDepth 100000 in
set_option maxHeartbeats 3200000 in
theorem at_ref (e : Ex) (hp : RText e) (h0 : 1 ≤ e.kd) (h1 : e.kd ≤ 26) (hlen : e.text.length ≤ 1000000000) (n : Int) (hn : 0 ≤ n ∧ n ≤ 100) : RAt e n := by
  intro w hl
  have hb0 : Below w.heap.size w (w.alloc (.cells e.cells.toArray 41)) := (Below.refl _ _).alloc (Nat.le_refl _) _
  have CT := hp (w.alloc (.cells e.cells.toArray 41)) (lies_below hb0 e hl)
  have CS : ∀ w, Calls Tryd.prog 49 #[.int .u8 e.kd] w fun x w' => x = .returned (.int .i64 (strong e.kd)) ∧ w' = w := fun w => strength_ref e.kd h0 h1 w
  have hz := strong_pos e.kd
  have HPar : Hid (par n (e.kd, e.text) = if strong e.kd < n then 40 :: (e.text ++ [41]) else e.text) := rfl
  have HB0 : Hid _ := hb0
  generalize par n (e.kd, e.text) = pt at *
  generalize e.text = TT at *
  obtain ⟨kd, pl, nm, it, dn, a, cap, l⟩ := e
  simp only at CS hz HPar h0 h1
  generalize strong kd = z at *
  obtain ⟨m, hm⟩ : ∃ m, m = l.length := ⟨_, rfl⟩
  simp only [Ex.val, Ex.cells, List.toArray, ← hm] at *
  clear hp hl hb0 hm h0 h1
  obtain ⟨hn0, hn1⟩ := hn
  by_cases hlt : z < n
  · obtain ⟨T1, hT1⟩ : ∃ T, T = [40] ++ TT := ⟨_, rfl⟩
    have l1 : T1.length = TT.length + 1 := by rw [hT1]; simp
    have a1 : ∀ W, (Op.stringOp .add ⟨#[40]⟩ ⟨TT.toArray⟩).run Tryd.prog W = .ok (.string ⟨T1.toArray⟩) W := fun W => by rw [hT1]; exact add_text W [40] TT (by simp only [List.length_cons, List.length_nil]; omega)
    have a2 : ∀ W, (Op.stringOp .add ⟨T1.toArray⟩ ⟨#[41]⟩).run Tryd.prog W = .ok (.string ⟨pt.toArray⟩) W := fun W => by
      rw [HPar.out, if_pos hlt]
      have := add_text W T1 [41] (by simp only [List.length_cons, List.length_nil]; omega)
      rw [hT1] at this ⊢
      exact this
    clear HPar hT1 l1
    go_enter Tryd.func50, Tryd.ntmps50
    go_wp2_with fail
    refine (CS _).mono ?_
    rintro x w1 ⟨rfl, rfl⟩
    clear CS
    go_wp2_with fail
    refine CT.mono ?_
    rintro x w2 ⟨rfl, hb2⟩
    have HB2 : Hid (Below w.heap.size w w2) := HB0.out.trans (hb2.mono HB0.out.size)
    clear CT hb2
    go_wp2_with fail
    go_ret
    exact ⟨rfl, HB2.out⟩
  · have HPt : Hid (pt = TT) := by rw [Hid, HPar.out, if_neg hlt]
    clear HPar
    go_enter Tryd.func50, Tryd.ntmps50
    go_wp2_with fail
    refine (CS _).mono ?_
    rintro x w1 ⟨rfl, rfl⟩
    clear CS
    go_wp2_with fail
    refine CT.mono ?_
    rintro x w2 ⟨rfl, hb2⟩
    have HB2 : Hid (Below w.heap.size w w2) := HB0.out.trans (hb2.mono HB0.out.size)
    clear CT hb2
    go_wp2_with fail
    go_ret
    exact ⟨by rw [HPt.out]; rfl, HB2.out⟩
end Go.Proofs.YtbahpbinilnfoaaDoor
