/- The programs of ShowLong, in plain words: their names, equations, nodes. -/
import Derived.Test.YtbahpbinilnfoaaDoorShowPlain
import Derived.Deep.RegionHeld3
import Derived.Deep.RegionLaw
import Derived.Laws.IdiomStrings
namespace Go.Proofs.YtbahpbinilnfoaaDoor
open Go.RowKit
/-- The letters of the names. -/
def abc : List UInt8 := [97, 98, 99, 100, 101, 102, 103, 104, 105, 106, 107, 108, 109, 110, 111, 112, 113, 114, 115, 116, 117, 118, 119, 120, 121, 122, 65, 66, 67, 68, 69, 70]
def nmOf (a : Nat) : ByteArray := ⟨(abc.take a).toArray⟩
theorem nm_len {a : Nat} (h : a ≤ 32) : (nmOf a).data.toList.length = a := by
  have h2 : abc.length = 32 := rfl
  show ((abc.take a).toArray.toList).length = a
  rw [List.toList_toArray, List.length_take, h2]
  omega
theorem nm_size {a : Nat} (h : a ≤ 32) : (nmOf a).size = a := by
  have := nm_len h
  show (nmOf a).data.size = a
  rw [← Array.length_toList]
  exact this
theorem nm_ok {a : Nat} (h1 : 1 ≤ a) (h2 : a ≤ 32) : nameB (nmOf a) = true := by
  have h : ∀ a : Fin 33, 1 ≤ a.1 → nameB (nmOf a.1) = true := by decide +kernel
  exact h ⟨a, by omega⟩ h1
/-- An equation of two names. -/
def eqAB (na : Option Addr) (a b : Nat) : Eqn := ⟨na, 1, [nmOf a], 0, .mk 1 0 (nmOf b) 0 0 none 0 []⟩
def longEq (q : Eqn) : Prop := ∃ na a b, 1 ≤ a ∧ a ≤ 32 ∧ 1 ≤ b ∧ b ≤ 32 ∧ q = eqAB na a b
/-- A node of such equations. -/
def ndOf (a : Option Addr) (c : Nat) (l : List Eqn) : Nd := ⟨false, ⟨#[110]⟩, 0, none, 0, [], none, 0, [], none, 0, [], a, c, l⟩
def longNd (n : Nd) : Prop := ∃ a c l, n = ndOf a c l ∧ l.length ≤ 100 ∧ ∀ q ∈ l, longEq q
end Go.Proofs.YtbahpbinilnfoaaDoor
/- The statement ShowLong: an equation of so many bytes. -/
namespace Go.Proofs.YtbahpbinilnfoaaDoor
open Go.RowKit
attribute [local go_sem] later_size later_cell later_frozen later_setCell later_drew later_drewN later_tape drewN_setCell drewN_alloc drewN_later later_later lt_more lt_more1 lt_more2 lt_more3 lt_more4 lk0_0_1 lk1_0_1 lk2_0_1 lk0_0_2 lk1_0_2 lk2_0_2 lk0_1_2 lk0_0_3 lk1_0_3 lk2_0_3 lk0_1_3 lk0_2_3 lk0_0_4 lk1_0_4 lk2_0_4 lk0_1_4 lk0_2_4 lk0_3_4 lk0_0_5 lk1_0_5 lk2_0_5 lk0_1_5 lk0_2_5 lk0_3_5 lk0_4_5 lk0_0_6 lk1_0_6 lk2_0_6 lk0_1_6 lk0_2_6 lk0_3_6 lk0_4_6 lk0_5_6 lk0_0_7 lk1_0_7 lk2_0_7 lk0_1_7 lk0_2_7 lk0_3_7 lk0_4_7 lk0_5_7 lk0_6_7
def abcText : ByteArray := ⟨#[97, 98, 99, 100, 101, 102, 103, 104, 105, 106, 107, 108, 109, 110, 111, 112, 113, 114, 115, 116, 117, 118, 119, 120, 121, 122, 65, 66, 67, 68, 69, 70]⟩
theorem abc_take {a : Nat} (h : a ≤ 32) : abcText.extract 0 a = nmOf a := by
  have h2 : ∀ a : Fin 33, abcText.extract 0 a.1 = nmOf a.1 := by decide +kernel
  exact h2 ⟨a, by omega⟩
theorem long_end {A : Act} {W : World} {Q' : Exit → Act → World → Prop} (h : Q' .normal A W) (e : Exit) (a : Act) (w : World) (hq : NoPanic (fun e a w => e = Exit.normal ∧ a = A ∧ w = W) e a w) : Q' e a w := by
  cases e
  case panic => exact (hq : False).elim
  case normal =>
    obtain ⟨-, rfl, rfl⟩ := hq
    exact h
  all_goals exact nomatch hq.1
theorem cut_at {c : Code} {Q' : Exit → Act → World → Prop} {A a : Act} {W w : World} (h1 : Code.wp Tryd.prog c (NoPanic fun e a w => e = Exit.normal ∧ a = A ∧ w = W) a w) (h2 : Q' .normal A W) : Code.wp Tryd.prog c Q' a w := Code.wp_mono (long_end h2) h1
theorem wrap_near {z : Int} (h0 : -1000000 ≤ z) (h1 : z ≤ 1000000) : IntKind.i64.wrap z = z := by
  simp only [IntKind.wrap, IntKind.bits, IntKind.signed]
  simp
  omega
set_option maxRecDepth 100000 in
set_option maxHeartbeats 3200000 in
theorem eq_calls (k a b : Nat) (hk : (k : Int) - 7 - a = b) (ha : min ((k : Int) - 8) 32 = a) (h1 : 9 ≤ k) (h2 : k ≤ 71) (hb : b ≤ 32) (w : World) : Calls Tryd.prog 8 #[.int .i64 k] w fun x w' => ∃ c, x = .returned (eqAB (some ⟨c, 0, none⟩) a b).val ∧ w.heap.size ≤ c ∧ w'.cell? ⟨c, 0, none⟩ = some (.string (nmOf a)) ∧ Below w.heap.size w w' := by
  have ha32 : a ≤ 32 := by omega
  have X1 := abc_take ha32
  have X2 := abc_take hb
  have HA : Hid (min ((k : Int) - 8) 32 = a) := ha
  have HK : Hid ((k : Int) - 7 - a = b) := hk
  have HX1 : Hid _ := X1
  have HX2 : Hid _ := X2
  obtain ⟨S, hS⟩ : ∃ S, S = abcText := ⟨_, rfl⟩
  have hsz : abcText.size = 32 := rfl
  rw [← hS] at X1 X2 hsz
  have hS2 : (⟨#[97, 98, 99, 100, 101, 102, 103, 104, 105, 106, 107, 108, 109, 110, 111, 112, 113, 114, 115, 116, 117, 118, 119, 120, 121, 122, 65, 66, 67, 68, 69, 70]⟩ : ByteArray) = S := hS.symm
  have HS : Hid _ := hS
  have HS2 : Hid _ := hS2
  clear hS hS2
  go_enter Tryd.func8, Tryd.ntmps8
  go_wp2_with fail
  · obtain rfl : a = 32 := by omega
    rw [HS2.out]
    have hk2 : IntKind.i64.wrap (IntKind.i64.wrap (k - 7) - 32) = b := by rw [wrap_near (z := (k : Int) - 7) (by omega) (by omega), wrap_near (by omega) (by omega)]; omega
    have hb0 : (0 : Int) ≤ b := by omega
    have hb1 : (b : Int) ≤ 32 := by omega
    clear ha hk
    apply cut_at (W := ((w.alloc (.cells #[.slice (some ⟨w.heap.size + 1, 0, none⟩) 1 1, .int .i64 0, .int .u8 1, .int .i64 0, .string (nmOf b), .int .i64 0, .int .i64 0, .slice none 0 0] 43)).alloc (.cells #[.string (nmOf 32)] 9)).drew)
    · go_region_law (go_simp)
      all_goals exact ⟨rfl, rfl, rfl⟩
    go_wp2_with fail
    obtain ⟨W1, hW1⟩ : ∃ W1 : World, W1 = ((w.alloc (.cells #[.slice (some ⟨w.heap.size + 1, 0, none⟩) 1 1, .int .i64 0, .int .u8 1, .int .i64 0, .string (nmOf b), .int .i64 0, .int .i64 0, .slice none 0 0] 43)).alloc (.cells #[.string (nmOf 32)] 9)).drew := ⟨_, rfl⟩
    rw [← hW1]
    have F1 : Hid (W1.cell? ⟨w.heap.size + 1, 0, none⟩ = some (.string (nmOf 32))) := by rw [Hid, hW1]; exact (World.cell?_alloc_at _ _ _ _ (by simp)).trans rfl
    have F2 : Hid (Below w.heap.size w W1) := by rw [Hid, hW1]; exact (show Gr w _ from (by repeat (first | (with_reducible exact Gr.refl _) | (with_reducible refine Gr.alloc ?_ _) | (with_reducible refine Gr.drewN ?_ _) | (with_reducible refine Gr.drew ?_) | (with_reducible refine Gr.later ?_ _ _)))).below
    have hz : ∀ j, W1.cell? ⟨w.heap.size, j, none⟩ = (#[.slice (some ⟨w.heap.size + 1, 0, none⟩) 1 1, .int .i64 0, .int .u8 1, .int .i64 0, .string (nmOf b), .int .i64 0, .int .i64 0, .slice none 0 0] : Array Value)[j]? := fun j => by
      rw [hW1]
      exact (World.cell?_alloc_old _ _ ⟨w.heap.size, j, none⟩ (by simp)).trans (World.cell?_alloc_at _ _ _ _ rfl)
    have z0 : W1.cell? ⟨w.heap.size, 0, none⟩ = some (.slice (some ⟨w.heap.size + 1, 0, none⟩) 1 1) := hz 0
    have z1 : W1.cell? ⟨w.heap.size, 1, none⟩ = some (.int .i64 0) := hz 1
    have z2 : W1.cell? ⟨w.heap.size, 2, none⟩ = some (.int .u8 1) := hz 2
    have z3 : W1.cell? ⟨w.heap.size, 3, none⟩ = some (.int .i64 0) := hz 3
    have z4 : W1.cell? ⟨w.heap.size, 4, none⟩ = some (.string (nmOf b)) := hz 4
    have z5 : W1.cell? ⟨w.heap.size, 5, none⟩ = some (.int .i64 0) := hz 5
    have z6 : W1.cell? ⟨w.heap.size, 6, none⟩ = some (.int .i64 0) := hz 6
    have z7 : W1.cell? ⟨w.heap.size, 7, none⟩ = some (.slice none 0 0) := hz 7
    clear hz hW1
    refine bodyPost_ret (by simp [results, Tryd.results8, go_sem, *]; try rfl) rfl ?_
    exact ⟨w.heap.size + 1, rfl, by omega, F1.out, F2.out⟩
  · have e1 : (k : Int) - 8 = a := by omega
    rw [HS2.out, e1]
    have hk2 : IntKind.i64.wrap (IntKind.i64.wrap (k - 7) - a) = b := by rw [wrap_near (z := (k : Int) - 7) (by omega) (by omega), wrap_near (by omega) (by omega)]; omega
    have hb0 : (0 : Int) ≤ b := by omega
    have hb1 : (b : Int) ≤ 32 := by omega
    have ha0 : (0 : Int) ≤ a := by omega
    have ha1 : (a : Int) ≤ 32 := by omega
    clear ha hk
    apply cut_at (W := ((w.alloc (.cells #[.slice (some ⟨w.heap.size + 1, 0, none⟩) 1 1, .int .i64 0, .int .u8 1, .int .i64 0, .string (nmOf b), .int .i64 0, .int .i64 0, .slice none 0 0] 43)).alloc (.cells #[.string (nmOf a)] 9)).drew)
    · go_region_law (go_simp)
      all_goals exact ⟨rfl, rfl, rfl⟩
    go_wp2_with fail
    obtain ⟨W1, hW1⟩ : ∃ W1 : World, W1 = ((w.alloc (.cells #[.slice (some ⟨w.heap.size + 1, 0, none⟩) 1 1, .int .i64 0, .int .u8 1, .int .i64 0, .string (nmOf b), .int .i64 0, .int .i64 0, .slice none 0 0] 43)).alloc (.cells #[.string (nmOf a)] 9)).drew := ⟨_, rfl⟩
    rw [← hW1]
    have F1 : Hid (W1.cell? ⟨w.heap.size + 1, 0, none⟩ = some (.string (nmOf a))) := by rw [Hid, hW1]; exact (World.cell?_alloc_at _ _ _ _ (by simp)).trans rfl
    have F2 : Hid (Below w.heap.size w W1) := by rw [Hid, hW1]; exact (show Gr w _ from (by repeat (first | (with_reducible exact Gr.refl _) | (with_reducible refine Gr.alloc ?_ _) | (with_reducible refine Gr.drewN ?_ _) | (with_reducible refine Gr.drew ?_) | (with_reducible refine Gr.later ?_ _ _)))).below
    have hz : ∀ j, W1.cell? ⟨w.heap.size, j, none⟩ = (#[.slice (some ⟨w.heap.size + 1, 0, none⟩) 1 1, .int .i64 0, .int .u8 1, .int .i64 0, .string (nmOf b), .int .i64 0, .int .i64 0, .slice none 0 0] : Array Value)[j]? := fun j => by
      rw [hW1]
      exact (World.cell?_alloc_old _ _ ⟨w.heap.size, j, none⟩ (by simp)).trans (World.cell?_alloc_at _ _ _ _ rfl)
    have z0 : W1.cell? ⟨w.heap.size, 0, none⟩ = some (.slice (some ⟨w.heap.size + 1, 0, none⟩) 1 1) := hz 0
    have z1 : W1.cell? ⟨w.heap.size, 1, none⟩ = some (.int .i64 0) := hz 1
    have z2 : W1.cell? ⟨w.heap.size, 2, none⟩ = some (.int .u8 1) := hz 2
    have z3 : W1.cell? ⟨w.heap.size, 3, none⟩ = some (.int .i64 0) := hz 3
    have z4 : W1.cell? ⟨w.heap.size, 4, none⟩ = some (.string (nmOf b)) := hz 4
    have z5 : W1.cell? ⟨w.heap.size, 5, none⟩ = some (.int .i64 0) := hz 5
    have z6 : W1.cell? ⟨w.heap.size, 6, none⟩ = some (.int .i64 0) := hz 6
    have z7 : W1.cell? ⟨w.heap.size, 7, none⟩ = some (.slice none 0 0) := hz 7
    clear hz hW1
    refine bodyPost_ret (by simp [results, Tryd.results8, go_sem, *]; try rfl) rfl ?_
    exact ⟨w.heap.size + 1, rfl, by omega, F1.out, F2.out⟩
end Go.Proofs.YtbahpbinilnfoaaDoor
