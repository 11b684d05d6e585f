/- The program's Size and Depth. -/
import Derived.Test.YtbahpbinilnfoaaDoorTreeRead
import Derived.OneCell
namespace Go.Proofs.YtbahpbinilnfoaaDoor
open Go.RowKit
open Ex.size Ex.depth Ex.lies Ex.bulk Ex.good Ex.pre
attribute [local go_sem] later_size later_cell later_frozen later_setCell later_drew later_drewN later_tape drewN_setCell drewN_alloc drewN_later later_later lt_more lt_more1 lt_more2 lt_more3 lt_more4 lk0_0_1 lk1_0_1 lk2_0_1 lk0_0_2 lk1_0_2 lk2_0_2 lk0_1_2 lk0_0_3 lk1_0_3 lk2_0_3 lk0_1_3 lk0_2_3 lk0_0_4 lk1_0_4 lk2_0_4 lk0_1_4 lk0_2_4 lk0_3_4 lk0_0_5 lk1_0_5 lk2_0_5 lk0_1_5 lk0_2_5 lk0_3_5 lk0_4_5 lk0_0_6 lk1_0_6 lk2_0_6 lk0_1_6 lk0_2_6 lk0_3_6 lk0_4_6 lk0_5_6 lk0_0_7 lk1_0_7 lk2_0_7 lk0_1_7 lk0_2_7 lk0_3_7 lk0_4_7 lk0_5_7 lk0_6_7
def msStep (s : Nat × Nat) (x : Ex × Nat) : Nat × Nat := (s.1 + 1, max s.2 x.2)
theorem ms_fold : ∀ (e : Ex) (d n m : Nat), d ≤ m → List.foldl msStep (n, m) (e.pre (d + 1)) = (n + e.size, max m (d + e.depth))
  | .mk kd pl nm it dn a cap l, d, n, m, h => by
    rw [pre_eq, List.foldl_cons]
    have := all l (d + 1) (n + 1) (max m (d + 1)) (by omega)
    simp only [msStep] at this ⊢
    rw [this]
    simp only [Ex.size, Ex.depth, Prod.mk.injEq]
    omega
where all : ∀ (l : List Ex) (d n m : Nat), d ≤ m → List.foldl msStep (n, m) (pres (d + 1) l) = (n + sizes l, max m (d + deepest l))
  | [], d, n, m, h => by simp [pres, sizes, deepest]; omega
  | e :: r, d, n, m, h => by
    rw [pres, List.foldl_append, ms_fold e d n m h, all r d _ _ (by omega)]
    simp only [sizes, deepest, Prod.mk.injEq]
    omega
theorem ms_all (e : Ex) : List.foldl msStep (0, 0) (e.pre 1) = (e.size, e.depth) := by
  rw [ms_fold e 0 0 0 (Nat.le_refl _)]
  simp
theorem ms_len (l : List (Ex × Nat)) : ∀ s : Nat × Nat, (List.foldl msStep s l).1 = s.1 + l.length := by
  induction l with
  | nil => simp
  | cons x r ih => intro s; rw [List.foldl_cons, ih]; simp [msStep]; omega
theorem two_set {w : World} (a b : Addr) (k : IntKind) {x y x' y' : Int} (h1 : x = x') (h2 : y = y') : (w.setCell a (.int k x)).setCell b (.int k y) = (w.setCell a (.int k x')).setCell b (.int k y') := by rw [h1, h2]
theorem heap_alloc_eq {w : World} {o : Obj} {k : Nat} (h : k = w.heap.size) : (w.alloc o).heap[k]? = some o := by rw [h]; exact heap_alloc_new w o
theorem cell_alloc_eq {w : World} {cs : List Value} {t : TypeId} {k j : Nat} (h : k = w.heap.size) : (w.alloc (.cells cs.toArray t)).cell? ⟨k, j, none⟩ = cs[j]? := by
  rw [h, World.cell?_alloc_at _ _ _ _ rfl]
  simp
def MsBoxes (c1 c2 : Nat) (s : Nat × Nat) (w : World) : Prop := w.heap[c1]? = some (.cells #[.int .i64 s.1] 3 (0, 0)) ∧ w.heap[c2]? = some (.cells #[.int .i64 s.2] 3 (0, 0)) ∧ s.2 ≤ 1048577
set_option maxHeartbeats 800000 in
theorem measure1_calls (p : Value) (d n m c1 c2 : Nat) (w : World) (h1 : w.heap[c1]? = some (.cells #[.int .i64 n] 3 (0, 0))) (h2 : w.heap[c2]? = some (.cells #[.int .i64 m] 3 (0, 0))) (hne' : ¬ c2 = c1) (hn : n ≤ 1048576) (_hm : m ≤ 1048577) (_hd : d ≤ 1048577) :
    Calls Tryd.prog 57 #[p, .int .i64 d, .pointer (some ⟨c1, 0, none⟩), .pointer (some ⟨c2, 0, none⟩)] w fun r w' => r = .returned (.tuple #[]) ∧ w' = (w.setCell ⟨c1, 0, none⟩ (.int .i64 ((n + 1 : Nat) : Int))).setCell ⟨c2, 0, none⟩ (.int .i64 ((max m d : Nat) : Int)) := by
  have a1 := cell_of_one h1
  have a2 := cell_of_one h2
  have f1 := free_of_one h1
  have f2 := free_of_one h2
  have H1 : Hid _ := h1
  have H2 : Hid _ := h2
  clear h1 h2
  go_enter Tryd.func57, Tryd.ntmps57
  go_wp2
  all_goals go_end0
  all_goals exact ⟨rfl, two_set _ _ _ (by omega) (by omega)⟩
set_option maxHeartbeats 1600000 in
theorem measure_calls (e : Ex) (hs : e.bulk ≤ 1048576) (hg : e.good) (w : World) (hl : e.lies w) : Calls Tryd.prog 35 #[e.val] w fun x w' => x = .returned (.tuple #[.int .i64 e.size, .int .i64 e.depth]) ∧ Below w.heap.size w w' := by
  obtain ⟨W, hW⟩ : ∃ W : World, W = (((w.alloc (.cells e.cells.toArray 41)).alloc (.cells #[.int .i64 0] 3)).alloc (.cells #[.int .i64 0] 3)).alloc (.cells e.cells.toArray 41) := ⟨_, rfl⟩
  have hWs : W.heap.size = w.heap.size + 4 := by rw [hW]; simp
  have hbel : Below w.heap.size w W := by
    rw [hW]
    exact ((((Below.refl _ _).alloc (Nat.le_refl _) _).alloc (by simp) _).alloc (by simp; omega) _).alloc (by simp; omega) _
  have hdep := depth_le e
  have hsb := size_bulk e
  have CW := read_walk msStep (MsBoxes (w.heap.size + 1) (w.heap.size + 2)) (0, 0) (fun k => k = w.heap.size + 1 ∨ k = w.heap.size + 2) w W 57 #[.pointer (some ⟨w.heap.size + 1, 0, none⟩), .pointer (some ⟨w.heap.size + 2, 0, none⟩)] e (w.heap.size + 3) 1
    (enters_of Tryd.func57 (by kernel_rfl) rfl) hbel (fun k hk => by omega)
    ⟨by rw [hW, Below.heap_alloc _ _ _ (by simp), Below.heap_alloc _ _ _ (by simp)]; exact heap_alloc_eq (by simp), by rw [hW, Below.heap_alloc _ _ _ (by simp)]; exact heap_alloc_eq (by simp), by simp⟩
    (fun s wa wb hC hsz hbl => by
      obtain ⟨h1, h2, h3⟩ := hC
      exact ⟨(hbl.block _ (lt_of_block h1) (.inl (by omega))).trans h1, (hbl.block _ (lt_of_block h2) (.inl (by omega))).trans h2, h3⟩)
    (by omega) (by omega) (fun j hj => by rw [hW]; exact cell_alloc_eq (by simp)) hl hg hs (Nat.le_refl _) (by unfold maxLen; omega)
    (by
      intro s x d b o wx hC hbs hb hnM hcells hlies hgood hbk hd hrest
      obtain ⟨h1, h2, h3⟩ := hC
      obtain ⟨rest, hrest⟩ := hrest
      rw [ms_all] at hrest
      have hr1 := ms_len rest (msStep s (x, d))
      rw [hrest] at hr1
      simp only [msStep] at hr1
      have hsx := size_pos x
      refine (measure1_calls _ d s.1 s.2 _ _ wx h1 h2 (by omega) (by omega) h3 (by omega)).mono ?_
      rintro r w' ⟨rfl, rfl⟩
      refine ⟨rfl, ?_, ?_, ?_⟩
      · intro k cur hk
        rw [Below.heap_setCell _ _ _ _ (fun e => by simp only at e; rw [e, h2] at hk; simp at hk), Below.heap_setCell _ _ _ _ (fun e => by simp only at e; rw [e, h1] at hk; simp at hk)]
        exact hk
      · refine ⟨rfl, rfl, rfl, by simp, fun k hk hm => ?_⟩
        rw [Below.heap_setCell _ _ _ _ (fun e => hm (.inr e)), Below.heap_setCell _ _ _ _ (fun e => hm (.inl e))]
      · refine ⟨?_, one_setCell ((Below.heap_setCell _ _ _ _ (by simp)).trans h2), by simp only [msStep]; omega⟩
        rw [Below.heap_setCell _ _ _ _ (by simp)]
        exact one_setCell h1)
  rw [ms_all] at CW
  generalize e.size = sz at *
  generalize e.depth = dp at *
  obtain ⟨kd, pl, nm, it, dn, a, cap, l⟩ := e
  simp only [Ex.val, Ex.cells, List.toArray] at *
  have HB : Hid _ := hbel
  clear hbel hl hg
  have HWS : Hid _ := hWs
  clear hWs
  subst hW
  go_enter Tryd.func35, Tryd.ntmps35
  go_wp2_with fail
  refine CW.mono ?_
  rintro x w2 ⟨rfl, hbs, h1, h2, h3⟩
  have a1 := cell_of_one h1
  have a2 := cell_of_one h2
  have f1 := free_of_one h1
  have f2 := free_of_one h2
  have HBS : Hid (Below w.heap.size w w2) := HB.out.trans (hbs.below (by have := HWS.out; omega) (fun k hk => by omega))
  clear CW hbs h1 h2
  go_wp2_with fail
  go_region
  all_goals go_wp2
  all_goals refine bodyPost_ret (by simp [results, Tryd.results35, go_sem, *]; try rfl) rfl ?_
  all_goals refine ⟨rfl, ?_⟩
  all_goals repeat (first | exact HBS.out | refine Below.setCell ?_ (by show w.heap.size ≤ _; simp; try omega) _ | refine Below.drew ?_ | exact Below.trans HBS.out ⟨rfl, rfl, rfl, Nat.le_refl _, fun _ _ => rfl⟩)
end Go.Proofs.YtbahpbinilnfoaaDoor
