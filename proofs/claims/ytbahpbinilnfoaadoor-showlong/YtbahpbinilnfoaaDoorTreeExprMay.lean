/- The program's exprMay: all parts may be. -/
import Derived.Test.YtbahpbinilnfoaaDoorTreeRead
import Derived.Test.YtbahpbinilnfoaaDoorTreeMeasure
import Derived.Test.YtbahpbinilnfoaaDoorTreePart
import Derived.OpenShut
namespace Go.Proofs.YtbahpbinilnfoaaDoor
open Go.RowKit
open Ex.size Ex.depth Ex.lies Ex.bulk Ex.good Ex.pre Ex.shape
attribute [local go_sem] later_size later_cell later_frozen later_setCell later_drew later_drewN later_tape drewN_setCell drewN_alloc drewN_later later_later lt_more lt_more1 lt_more2 lt_more3 lt_more4 lk0_0_1 lk1_0_1 lk2_0_1 lk0_0_2 lk1_0_2 lk2_0_2 lk0_1_2 lk0_0_3 lk1_0_3 lk2_0_3 lk0_1_3 lk0_2_3 lk0_0_4 lk1_0_4 lk2_0_4 lk0_1_4 lk0_2_4 lk0_3_4 lk0_0_5 lk1_0_5 lk2_0_5 lk0_1_5 lk0_2_5 lk0_3_5 lk0_4_5 lk0_0_6 lk1_0_6 lk2_0_6 lk0_1_6 lk0_2_6 lk0_3_6 lk0_4_6 lk0_5_6 lk0_0_7 lk1_0_7 lk2_0_7 lk0_1_7 lk0_2_7 lk0_3_7 lk0_4_7 lk0_5_7 lk0_6_7
def okStep (s : Bool) (x : Ex × Nat) : Bool := s && partOk x.1
theorem ok_fold : ∀ (e : Ex) (d : Nat) (s : Bool), List.foldl okStep s (e.pre d) = (s && e.shape)
  | .mk kd pl nm it dn a cap l, d, s => by
    rw [pre_eq, List.foldl_cons, all l]
    simp only [okStep, partOk, numB, Ex.shape]
    cases s <;> cases argsOkB kd l.length <;> cases nameOkB kd nm <;> cases intOkB kd it <;> cases denOkB kd dn <;> simp
where all : ∀ (l : List Ex) (d : Nat) (s : Bool), List.foldl okStep s (pres d l) = (s && shapes l)
  | [], d, s => by simp [pres, shapes]
  | e :: r, d, s => by
    rw [pres, List.foldl_append, ok_fold e d s, all r]
    simp [shapes, Bool.and_assoc]
def OkBox (c : Nat) (s : Bool) (w : World) : Prop := w.heap[c]? = some (.cells #[.bool s] 4 (0, 0)) ∧ HasTab w
theorem len_args_bulk {e : Ex} (h : e.bulk ≤ 1048576) : e.args.length ≤ 1048576 ∧ e.nm.size ≤ 1048576 := by
  obtain ⟨kd, pl, nm, it, dn, a, cap, l⟩ := e
  simp only [Ex.bulk] at h
  have h1 := len_sizes l
  have h2 := sizes_bulk l
  exact ⟨by show l.length ≤ _; omega, by show nm.size ≤ _; omega⟩
/-- A block of one cell behind a callee that grows, and a store into it. -/
theorem kept_box {w w2 : World} {c : Nat} {u v : Value} {t : TypeId} {B : Nat} (hne : t ≠ 111) (h : w.heap[c]? = some (.cells #[u] t (0, 0))) (hb : Below w.heap.size w w2) (hB : B ≤ w.heap.size) :
    keepsLevels w (w2.setCell ⟨c, 0, none⟩ v) ∧ ButSome (fun k => k = c) B w (w2.setCell ⟨c, 0, none⟩ v) ∧ (w2.setCell ⟨c, 0, none⟩ v).heap[c]? = some (.cells #[v] t (0, 0)) := by
  refine ⟨fun k cur hk => ?_, ⟨hb.os, hb.tape, hb.output, by simpa using hb.size, fun k hk hm => ?_⟩, one_setCell ((hb.block c (lt_of_block h)).trans h)⟩
  · rw [Below.heap_setCell _ _ _ _ (fun e => by
      simp only at e
      rw [e, h] at hk
      simp only [Option.some.injEq, Obj.cells.injEq] at hk
      exact hne hk.2.1)]
    exact (hb.block k (lt_of_block hk)).trans hk
  · rw [Below.heap_setCell _ _ _ _ (fun e => hm e)]
    exact hb.block k (by omega)
theorem HasTab.some {w w' : World} {c B : Nat} (h : HasTab w) (hb : ButSome (fun k => k = c) B w w') (hc : c ≠ 1) (hB : 1 < B) : HasTab w' := fun k hk => (hb.cell hB (fun e => hc e.symm)).trans (h k hk)
set_option maxHeartbeats 1600000 in
theorem exprMay1_calls (x : Ex) (b o c : Nat) (d : Int) (s : Bool) (w : World) (hbx : w.heap[c]? = some (.cells #[.bool s] 4 (0, 0))) (ht : HasTab w) (hcl : ∀ j, j < 6 → w.cell? ⟨b, o + j, none⟩ = x.cells[j]?) (hg : x.good) (hbk : x.bulk ≤ 1048576) :
    Calls Tryd.prog 75 #[.pointer (some ⟨b, o, none⟩), .int .i64 d, .pointer (some ⟨c, 0, none⟩)] w fun r w' => r = .returned (.tuple #[]) ∧ ∃ w2, Below w.heap.size w w2 ∧ w' = w2.setCell ⟨c, 0, none⟩ (.bool (s && partOk x)) := by
  have a1 := cell_of_one hbx
  have f1 := free_of_one hbx
  have HX : Hid _ := hbx
  clear hbx
  have hk : 0 ≤ x.kd ∧ x.kd ≤ 255 := by cases x; exact bounds_u8 hg.1.1
  obtain ⟨hn, hs⟩ := len_args_bulk hbk
  have CP := partMay_calls x hk.1 hk.2 hn hs w ht
  generalize partOk x = q at *
  obtain ⟨kd, pl, nm, it, dn, a, cap, l⟩ := x
  have c0 : w.cell? ⟨b, o, none⟩ = some (.int .u8 kd) := hcl 0 (by omega)
  have c1 : w.cell? ⟨b, o + 1, none⟩ = some (.int .i64 pl) := hcl 1 (by omega)
  have c2 : w.cell? ⟨b, o + 2, none⟩ = some (.string nm) := hcl 2 (by omega)
  have c3 : w.cell? ⟨b, o + 3, none⟩ = some (.int .i64 it) := hcl 3 (by omega)
  have c4 : w.cell? ⟨b, o + 4, none⟩ = some (.int .i64 dn) := hcl 4 (by omega)
  have c5 : w.cell? ⟨b, o + 5, none⟩ = some (.slice a l.length cap) := hcl 5 (by omega)
  simp only [Ex.val, Ex.cells, List.toArray] at CP
  clear hcl ht hg hbk hk hn hs
  cases s
  · clear CP
    go_enter Tryd.func75, Tryd.ntmps75
    go_wp2_with fail
    go_end0
    exact ⟨rfl, _, Below.refl _ _, rfl⟩
  · go_enter Tryd.func75, Tryd.ntmps75
    go_wp2_with fail
    refine CP.mono ?_
    rintro r w2 ⟨rfl, hb⟩
    have b2 := (hb.block c (lt_of_block HX.out)).trans HX.out
    have a2 := cell_of_one b2
    have f2 := free_of_one b2
    have HB : Hid _ := hb
    clear hb b2 CP c0 c1 c2 c3 c4 c5 a1 f1
    go_wp2_with fail
    go_end0
    exact ⟨rfl, _, HB.out, rfl⟩
set_option maxHeartbeats 1600000 in
theorem exprMay_calls (e : Ex) (hs : e.bulk ≤ 1048576) (hg : e.good) (w : World) (hl : e.lies w) (ht : HasTab w) : Calls Tryd.prog 55 #[e.val] w fun x w' => x = .returned (.bool e.shape) ∧ Below w.heap.size w w' := by
  have h0 : 1 < w.heap.size := World.block_lt_of_cell? w ⟨1, 0, none⟩ (ht 0 (by omega))
  obtain ⟨W, hW⟩ : ∃ W : World, W = ((w.alloc (.cells e.cells.toArray 41)).alloc (.cells #[.bool true] 4)).alloc (.cells e.cells.toArray 41) := ⟨_, rfl⟩
  have hWs : W.heap.size = w.heap.size + 3 := by rw [hW]; simp
  have hbel : Below w.heap.size w W := by
    rw [hW]
    exact (((Below.refl _ _).alloc (Nat.le_refl _) _).alloc (by simp) _).alloc (by simp; omega) _
  have CW := read_walk okStep (OkBox (w.heap.size + 1)) true (fun k => k = w.heap.size + 1) w W 75 #[.pointer (some ⟨w.heap.size + 1, 0, none⟩)] e (w.heap.size + 2) 1
    (enters_of Tryd.func75 (by kernel_rfl) rfl) hbel (fun k hk => by omega)
    ⟨by rw [hW, Below.heap_alloc _ _ _ (by simp)]; exact heap_alloc_eq (by simp), ht.below hbel⟩
    (fun s wa wb hC hsz hbl => by
      obtain ⟨h1, h2⟩ := hC
      refine ⟨(hbl.block _ (lt_of_block h1) (.inl (by omega))).trans h1, fun k hk => ?_⟩
      rw [← h2 k hk]
      exact World.cell?_of_block (hbl.block 1 (by omega) (.inl (by omega))))
    (by omega) (by omega) (fun j hj => by rw [hW]; exact cell_alloc_eq (by simp)) hl hg hs (Nat.le_refl _) (by unfold maxLen; omega)
    (by
      intro s x d b o wx hC hbs hb hnM hcells hlies hgood hbk hd hrest
      obtain ⟨h1, h2⟩ := hC
      refine (exprMay1_calls x b o _ d s wx h1 h2 hcells hgood hbk).mono ?_
      rintro r w' ⟨rfl, w2, hb2, rfl⟩
      obtain ⟨k1, k2, k3⟩ := kept_box (B := W.heap.size) (v := .bool (s && partOk x)) (by decide) h1 hb2 hbs.size
      exact ⟨rfl, k1, k2, k3, h2.some k2 (by omega) (by omega)⟩)
  rw [ok_fold, Bool.true_and] at CW
  generalize e.shape = q at *
  obtain ⟨kd, pl, nm, it, dn, a, cap, l⟩ := e
  simp only [Ex.val, Ex.cells, List.toArray] at *
  have HB : Hid _ := hbel
  have HWS : Hid _ := hWs
  clear hbel hl hg hWs ht
  subst hW
  go_enter Tryd.func55, Tryd.ntmps55
  go_wp2_with fail
  refine CW.mono ?_
  rintro x w2 ⟨rfl, hbs, h1, h2⟩
  have a1 := cell_of_one h1
  have HBS : Hid (Below w.heap.size w w2) := HB.out.trans (hbs.below (by have := HWS.out; omega) (fun k hk => by omega))
  clear CW hbs h1 h2
  go_wp2_with fail
  go_ret
  exact ⟨rfl, HBS.out⟩
end Go.Proofs.YtbahpbinilnfoaaDoor
