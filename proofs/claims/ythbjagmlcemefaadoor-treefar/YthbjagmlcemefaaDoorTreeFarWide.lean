/- TreeFar, the wide way. -/
import Derived.Test.YthbjagmlcemefaaDoorTreeFarDeep
import Derived.Deep.RegionHeld3
namespace Go.Proofs.YthbjagmlcemefaaDoor
open Go.RowKit
open Ex.size Ex.depth Ex.lies Ex.bulk Ex.good Ex.shape
attribute [local go_sem] later_size later_cell later_frozen later_setCell later_drew later_drewN later_tape drewN_setCell drewN_alloc drewN_later later_later lt_more lt_more1 lt_more2 lt_more3 lt_more4 lk0_0_1 lk1_0_1 lk2_0_1 lk0_0_2 lk1_0_2 lk2_0_2 lk0_1_2 lk0_0_3 lk1_0_3 lk2_0_3 lk0_1_3 lk0_2_3 lk0_0_4 lk1_0_4 lk2_0_4 lk0_1_4 lk0_2_4 lk0_3_4 lk0_0_5 lk1_0_5 lk2_0_5 lk0_1_5 lk0_2_5 lk0_3_5 lk0_4_5 lk0_0_6 lk1_0_6 lk2_0_6 lk0_1_6 lk0_2_6 lk0_3_6 lk0_4_6 lk0_5_6 lk0_0_7 lk1_0_7 lk2_0_7 lk0_1_7 lk0_2_7 lk0_3_7 lk0_4_7 lk0_5_7 lk0_6_7
theorem Tryd.infoEq : (Tryd.prog.info? 36).map (fun i => (i.zero, i.size, i.bytes)) = some (some (.agg #[.slice none 0 0, .int .i64 0, .int .u8 0, .int .i64 0, .string ⟨#[]⟩, .int .i64 0, .int .i64 0, .slice none 0 0]), 8, 104) := by kernel_rfl
theorem eq_one (q : Eqn) : ∀ u ∈ q.cells, u.oneCell' = true := by
  obtain ⟨na, nc, ns, pq, ⟨kd, pl, nm, it, dn, a, c, l⟩⟩ := q
  intro u hu
  simp only [Eqn.cells, Ex.cells, List.mem_cons, List.not_mem_nil, or_false] at hu
  rcases hu with rfl | rfl | rfl | rfl | rfl | rfl | rfl | rfl <;> rfl
theorem news_eq (w : World) (q : Eqn) (t : TypeId) : ∀ j u, q.cells[j]? = some u → (w.alloc (.cells q.cells.toArray t)).cell? ((⟨w.heap.size, 0, none⟩ : Addr).add j) = some u := fun j u hj => by
  rw [← hj]
  have : (⟨w.heap.size, 0, none⟩ : Addr).add j = ⟨w.heap.size, j, none⟩ := by unfold Addr.add; split <;> simp_all
  rw [this]
  exact cell_alloc_eq rfl
theorem far_after {B : Nat} {w w3 w6 : World} {l : List Eqn} {v : Value} {ob : Obj} (h : FarW B w l v w3) (hg : (w3.alloc ob).grownBy w6 v.ownBlock) : w6.cell? ⟨B, 0, none⟩ = some (.slice (some ⟨B + 1, 0, none⟩) 1 1) ∧ w6.cell? ⟨B + 1, 6, none⟩ = some v ∧ w6.frozen? ⟨B + 1, 6, none⟩ = false ∧ B + 1 < w6.heap.size ∧ B < w6.heap.size := by
  have hs := h.size
  have hvo : ∀ k, v.ownBlock = some k → B + 2 ≤ k := fun k hk => (h.own.lt k hk).1
  have k0 : w6.heap[B]? = w3.heap[B]? := (hg.block B (by simp; omega) fun e => by have := hvo B e.symm; omega).trans (Below.heap_alloc _ _ _ (by omega))
  have k1 : w6.heap[B + 1]? = w3.heap[B + 1]? := (hg.block (B + 1) (by simp; omega) fun e => by have := hvo (B + 1) e.symm; omega).trans (Below.heap_alloc _ _ _ (by omega))
  have hz := hg.size
  simp only [World.alloc, Array.size_push] at hz
  exact ⟨(World.cell?_of_block k0).trans h.prog, (World.cell?_of_block k1).trans h.eqs, (World.frozen?_of_block k1).trans h.froz, by omega, by omega⟩
theorem takeF {P : Program} {md : Region.Mode} {ops : Array Oper} {Q : Exit → Act → World → Prop} {S : World → Prop} {i d : Nat} {oi : Oper} {v : Value} {fuel : Nat} {listed : Array Bool} {a : Act} {w : World} (hi : ops[i]? = some oi) (hd : oi.dst = some d) (hs : Region.noSelect ops = true) (hf : Region.free md ops listed i = true) (hr : (Region.ready md ops listed).contains i = true) (hQ : ∀ c a w, Q (.panic c) (a.put oi.dst v) w → Q (.panic c) a w) (hy : YieldsIf P ops S oi v a) (hS : S w) (h : wpAnyH P md ops Q S fuel (listed.setIfInBounds i true) (a.put (some d) v) w) : wpAnyH P md ops Q S (fuel + 1) listed a w := wpAnyH_take hi hs hf hr hQ hy hS (by rw [hd]; exact h)
/-- The loop's state: so much is done. -/
def FarWide (B : Nat) (w : World) (M : Nat) (wr : World) (n : Nat) : Prop := ∃ l v, FarW B w l v wr ∧ eqSizes l + n = M ∧ (0 < n → 64 * l.length = eqSizes l) ∧ 64 * l.length < eqSizes l + 64 ∧ eqDeep l ≤ 64
theorem far_wide_more {B : Nat} {w w3 w5 : World} {l : List Eqn} {v : Value} {M n k : Nat} {q : Eqn} {t : TypeId} (h : FarW B w l v w3) (hq : farLies w3 B v q) (hr : ∃ P, rowLies w3 P (k - 1) q.e) (hk : k = min n 64) (hn : 0 < n) (e1 : eqSizes l + n = M) (e2 : 64 * l.length = eqSizes l) (e4 : eqDeep l ≤ 64) (g cap : Nat) (hown : w5.ownsRow (B + 2) 36 8 (.slice (some ⟨g, 0, none⟩) (l.length + 1) cap) (l.length + 1) (flatEqs l ++ q.cells)) (hgr : (w3.alloc (.cells q.cells.toArray t)).grownBy w5 v.ownBlock) (hat : v.ownBlock = some g ∨ g = (w3.alloc (.cells q.cells.toArray t)).heap.size) :
    FarWide B w M (w5.setCell ⟨B + 1, 6, none⟩ (.slice (some ⟨g, 0, none⟩) (l.length + 1) cap)) (n - k) := by
  obtain ⟨P, hr⟩ := hr
  obtain ⟨s1, s2, -⟩ := rowLies_size _ _ hr
  refine ⟨l ++ [q], _, h.more rfl q hq g cap hown hgr (hat.imp id fun h => by rw [h]; simp), ?_, ?_, ?_, ?_⟩
  · rw [eqSizes_app]; simp only [eqSizes]; omega
  · rw [eqSizes_app]; simp only [eqSizes, List.length_append, List.length_cons, List.length_nil]; omega
  · rw [eqSizes_app]; simp only [eqSizes, List.length_append, List.length_cons, List.length_nil]; omega
  · rw [eqDeep_app]; simp only [eqDeep]; omega
set_option maxRecDepth 100000 in
set_option maxHeartbeats 6400000 in
theorem far_wide (o : Int) (h1 : -128 ≤ o) (h2 : o ≤ 127) (w : World) (ht : HasTab w) : Calls Tryd.prog 3 #[.int .i8 o, .bool false] w fun x w' => x = .returned (.bool true) ∧ Below w.heap.size w w' := by
  obtain ⟨i0, hi, hz0', hz1, hz2⟩ := info_parts Tryd.infoEq
  obtain ⟨M, hM, hM1, hM2⟩ : ∃ M : Nat, 4096 + o = (M : Int) ∧ 3968 ≤ M ∧ M ≤ 4223 := ⟨(4096 + o).toNat, by omega, by omega, by omega⟩
  obtain ⟨B, hB⟩ : ∃ B, B = w.heap.size := ⟨_, rfl⟩
  obtain ⟨W0, hW0⟩ : ∃ W0 : World, W0 = (w.alloc (.cells #[.slice (some ⟨w.heap.size + 1, 0, none⟩) 1 1] 25)).alloc (.cells #[.bool false, .string ⟨#[110]⟩, .int .i64 0, .slice none 0 0, .slice none 0 0, .slice none 0 0, .slice none 0 0] 29) := ⟨_, rfl⟩
  have HF0 : Hid (FarWide B w M W0 M) := by rw [hW0, hB]; exact ⟨[], _, far_start w, by simp [eqSizes], by simp [eqSizes], by simp [eqSizes], by simp [eqDeep]⟩
  have HW0 : Hid (_ = W0) := hW0.symm
  have HB : Hid (B = w.heap.size) := hB
  have HT : Hid (HasTab w) := ht
  have HI : Hid _ := hi
  have HZ0 : Hid _ := hz0'
  have HZ1 : Hid _ := hz1
  have HZ2 : Hid _ := hz2
  clear hW0 hB ht hi hz0' hz1 hz2
  go_enter Tryd.func3, Tryd.ntmps3
  go_wp2_with fail
  rw [HW0.out]
  try rw [hM]
  try rw [← HB.out]
  go_loopw [7, 8, 9] (fun n _ _ wr => ∃ m : Nat, n = .int .i64 m ∧ Hid (FarWide B w M wr m)) (fun n _ _ _ => (intOf n).toNat)
  case atStart => exact ⟨M, rfl, HF0⟩
  case round =>
    obtain ⟨m, rfl, HF⟩ := hrel
    obtain ⟨l, v, hF, e1, e2, e3, e4⟩ := HF.out
    have hlen : l.length ≤ 66 := by omega
    have hmM : m ≤ 4223 := by omega
    obtain ⟨va, vc, rfl⟩ : ∃ a c, v = .slice a l.length c := by obtain ⟨a, c, h, -⟩ := hF.lies; exact ⟨a, c, h⟩
    have HFr : Hid (FarW B w l (.slice va l.length vc) wr) := hF
    have HLen1 : Hid (l.length + 1 ≤ maxLen) := by unfold Hid maxLen; omega
    have HLen2 : Hid ((l.length + 1) * 104 ≤ 140737488355328) := by unfold Hid; omega
    have pc := hF.prog
    have hsz := hF.size
    have fz := hF.froz
    have ce := hF.eqs
    have b0 : B < wr.heap.size := by omega
    have b1 : B + 1 < wr.heap.size := by omega
    by_cases hm : 0 < m
    · obtain ⟨k, hk⟩ : ∃ k, k = min m 64 := ⟨_, rfl⟩
      have hkI : min (m : Int) 64 = (k : Int) := by omega
      have HK : Hid (k = min m 64) := hk
      have hk1 : 1 ≤ k := by omega
      have hk2 : k ≤ 1000 := by omega
      have HE : Hid (eqSizes l + m = M ∧ 64 * l.length = eqSizes l ∧ eqDeep l ≤ 64) := ⟨e1, e2 hm, e4⟩
      have hkm : k ≤ m := by omega
      clear hF e1 e2 e3 e4 hk HF HF0
      go_wp2_with fail
      try rw [hkI]
      go_cut [] (fun wc => Hid (FarWide B w M wc (m - k)))
      case first =>
        --a
        refine wp_region_noPanic ?_
        refine wp_region_held_drew (S := (fun w' => w'.cell? ⟨B, 0, none⟩ = some (.slice (some ⟨B + 1, 0, none⟩) 1 1))) (by kernel_rfl) (by (try dsimp only); go_simp) (fun hHeld => ?_)
        refine takeF (i := 0) (v := ?_) rfl rfl (by kernel_rfl) (by kernel_rfl) (by kernel_rfl) (fun _ _ _ h => h) (Or.inl ⟨by rfl, ?_⟩) (by assumption) ?_
        rotate_left
        · intro w hSw; (try dsimp only at hSw); first | (go_simp; done) | (go_simp; with_reducible rfl)
        try simp only [Act.put, List.setIfInBounds_toArray, List.set_cons_zero, List.set_cons_succ]
        refine takeF (i := 1) (v := ?_) rfl rfl (by kernel_rfl) (by kernel_rfl) (by kernel_rfl) (fun _ _ _ h => h) (Or.inl ⟨by rfl, ?_⟩) (by assumption) ?_
        rotate_left
        · intro w hSw; (try dsimp only at hSw); first | (go_simp; done) | (go_simp; with_reducible rfl)
        try simp only [Act.put, List.setIfInBounds_toArray, List.set_cons_zero, List.set_cons_succ]
        refine takeF (i := 2) (v := ?_) rfl rfl (by kernel_rfl) (by kernel_rfl) (by kernel_rfl) (fun _ _ _ h => h) (Or.inl ⟨by rfl, ?_⟩) (by assumption) ?_
        rotate_left
        · intro w hSw; (try dsimp only at hSw); first | (go_simp; done) | (go_simp; with_reducible rfl)
        try simp only [Act.put, List.setIfInBounds_toArray, List.set_cons_zero, List.set_cons_succ]
        refine takeF (i := 3) (v := ?_) rfl rfl (by kernel_rfl) (by kernel_rfl) (by kernel_rfl) (fun _ _ _ h => h) (Or.inl ⟨by rfl, ?_⟩) (by assumption) ?_
        rotate_left
        · intro w hSw; (try dsimp only at hSw); first | (go_simp; done) | (go_simp; with_reducible rfl)
        try simp only [Act.put, List.setIfInBounds_toArray, List.set_cons_zero, List.set_cons_succ]
        refine takeF (i := 4) (v := ?_) rfl rfl (by kernel_rfl) (by kernel_rfl) (by kernel_rfl) (fun _ _ _ h => h) (Or.inl ⟨by rfl, ?_⟩) (by assumption) ?_
        rotate_left
        · intro w hSw; (try dsimp only at hSw); first | (go_simp; done) | (go_simp; with_reducible rfl)
        try simp only [Act.put, List.setIfInBounds_toArray, List.set_cons_zero, List.set_cons_succ]
        refine takeF (i := 5) (v := ?_) rfl rfl (by kernel_rfl) (by kernel_rfl) (by kernel_rfl) (fun _ _ _ h => h) (Or.inl ⟨by rfl, ?_⟩) (by assumption) ?_
        rotate_left
        · intro w hSw; (try dsimp only at hSw); first | (go_simp; done) | (go_simp; with_reducible rfl)
        try simp only [Act.put, List.setIfInBounds_toArray, List.set_cons_zero, List.set_cons_succ]
        refine takeF (i := 6) (v := ?_) rfl rfl (by kernel_rfl) (by kernel_rfl) (by kernel_rfl) (fun _ _ _ h => h) (Or.inl ⟨by rfl, ?_⟩) (by assumption) ?_
        rotate_left
        · intro w hSw; (try dsimp only at hSw); first | (go_simp; done) | (go_simp; with_reducible rfl)
        try simp only [Act.put, List.setIfInBounds_toArray, List.set_cons_zero, List.set_cons_succ]
        refine takeF (i := 7) (v := ?_) rfl rfl (by kernel_rfl) (by kernel_rfl) (by kernel_rfl) (fun _ _ _ h => h) (Or.inl ⟨by rfl, ?_⟩) (by assumption) ?_
        rotate_left
        · intro w hSw; (try dsimp only at hSw); first | (go_simp; done) | (go_simp; with_reducible rfl)
        try simp only [Act.put, List.setIfInBounds_toArray, List.set_cons_zero, List.set_cons_succ]
        refine takeF (i := 10) (v := ?_) rfl rfl (by kernel_rfl) (by kernel_rfl) (by kernel_rfl) (fun _ _ _ h => h) (Or.inl ⟨by rfl, ?_⟩) (by assumption) ?_
        rotate_left
        · intro w hSw; (try dsimp only at hSw); first | (go_simp; done) | (go_simp; with_reducible rfl)
        try simp only [Act.put, List.setIfInBounds_toArray, List.set_cons_zero, List.set_cons_succ]
        refine wpAnyH_ready (rs := [8, 9, 11]) (by kernel_rfl) (by simp) ?_
        refine AllReadyH.cons rfl (fun K hK => ?_) ?_
        · skip
          go_simp
          refine hK.out _ _ (by (try dsimp only); go_simp) (fun hHeld => ?_)
          clear hK K
          try simp only [Act.put, List.setIfInBounds_toArray, List.set_cons_zero, List.set_cons_succ]
          refine wpAnyH_ready (rs := [9, 11]) (by kernel_rfl) (by simp) ?_
          refine AllReadyH.cons rfl (fun K hK => ?_) ?_
          · skip
            go_simp
            refine hK.out _ _ (by (try dsimp only); go_simp) (fun hHeld => ?_)
            clear hK K
            try simp only [Act.put, List.setIfInBounds_toArray, List.set_cons_zero, List.set_cons_succ]
            refine wpAnyH_ready (rs := [11]) (by kernel_rfl) (by simp) ?_
            refine AllReadyH.cons rfl (fun K hK => ?_) AllReadyH.nil
            go_simp
            refine (row_far (HFr.out.alloc' _).drew' k hk1 hk2).mono ?_
            rintro r w5 ⟨kd, pl, nm, it, dn, ea, ec, el, rfl, HR5, HF5, HB5, k0, k1, k2, k3, k4⟩
            go_wp2_with fail
            refine hK.out _ _ (by (try dsimp only); go_simp) (fun hHeld => ?_)
            clear hK K
            try simp only [Act.put, List.setIfInBounds_toArray, List.set_cons_zero, List.set_cons_succ]
            refine takeF (i := 12) (v := ?_) rfl rfl (by kernel_rfl) (by kernel_rfl) (by kernel_rfl) (fun _ _ _ h => h) (Or.inl ⟨by rfl, ?_⟩) (by assumption) ?_
            rotate_left
            · intro w hSw; (try dsimp only at hSw); first | (go_simp; done) | (go_simp; with_reducible rfl)
            try simp only [Act.put, List.setIfInBounds_toArray, List.set_cons_zero, List.set_cons_succ]
            refine wpAnyH_ready (rs := [13]) (by kernel_rfl) (by simp) ?_
            refine AllReadyH.cons rfl (fun K hK => ?_) AllReadyH.nil
            go_simp
            refine hK.out _ _ (by (try dsimp only); go_simp) (fun hHeld => ?_)
            clear hK K
            try simp only [Act.put, List.setIfInBounds_toArray, List.set_cons_zero, List.set_cons_succ]
            refine wpAnyH_ready (rs := [14]) (by kernel_rfl) (by simp) ?_
            refine AllReadyH.cons rfl (fun K hK => ?_) AllReadyH.nil
            refine step_append_lies (w5.alloc (.cells #[.slice (some ⟨wr.heap.size, 0, none⟩) 1 1, .int .i64 0, .int .u8 kd, .int .i64 pl, .string nm, .int .i64 it, .int .i64 dn, .slice ea el.length ec] 36)) rfl (.tmp 80) (.tmp 85) 27 rfl (B + 2) 36 i0 (.agg #[.slice none 0 0, .int .i64 0, .int .u8 0, .int .i64 0, .string ⟨#[]⟩, .int .i64 0, .int .i64 0, .slice none 0 0]) 8 104 Tryd.underlying27 HI.out HZ0.out HZ1.out HZ2.out rfl (by decide) (.slice va l.length vc) l.length (flatEqs l) (by simp [Act.eval]) (HF5.out.own.alloc _) ⟨w5.heap.size, 0, none⟩ 1 1 (Eqn.cells ⟨some ⟨wr.heap.size, 0, none⟩, 1, [⟨#[120]⟩], 0, ⟨kd, pl, nm, it, dn, ea, ec, el⟩⟩) (by simp [Act.eval]) rfl (news_eq w5 ⟨some ⟨wr.heap.size, 0, none⟩, 1, [⟨#[120]⟩], 0, ⟨kd, pl, nm, it, dn, ea, ec, el⟩⟩ _) (eq_one _) (by decide) HLen1.out HLen2.out (by have := HF5.out.size; simp; omega) _ rfl ?_
            intro g3 cap3 w6 hown3 hgrow hat hlt3
            obtain ⟨j0, j1, j2, j3, j4⟩ := far_after HF5.out hgrow
            have HOW : Hid _ := hown3
            have HGR : Hid _ := hgrow
            have HAT : Hid _ := hat
            clear hown3 hgrow hat
            refine hK.out _ _ (by (try dsimp only); go_simp) (fun hHeld => ?_)
            clear hK K
            try simp only [Act.put, List.setIfInBounds_toArray]
            refine takeF (i := 15) (v := ?_) rfl rfl (by kernel_rfl) (by kernel_rfl) (by kernel_rfl) (fun _ _ _ h => h) (Or.inl ⟨by rfl, ?_⟩) (by assumption) ?_
            rotate_left
            · intro w hSw; (try dsimp only at hSw); first | (go_simp; done) | (go_simp; with_reducible rfl)
            try simp only [Act.put]
            refine takeF (i := 16) (v := ?_) rfl rfl (by kernel_rfl) (by kernel_rfl) (by kernel_rfl) (fun _ _ _ h => h) (Or.inl ⟨by rfl, ?_⟩) (by assumption) ?_
            rotate_left
            · intro w hSw; (try dsimp only at hSw); first | (go_simp; done) | (go_simp; with_reducible rfl)
            try simp only [Act.put]
            refine wpAnyH_ready (rs := [17]) (by kernel_rfl) (by simp) ?_
            refine AllReadyH.cons rfl (fun K hK => ?_) AllReadyH.nil
            go_simp
            refine hK.out _ _ (by (try dsimp only); go_simp) (fun hHeld => ?_)
            clear hK K
            try simp only [Act.put, List.setIfInBounds_toArray, List.set_cons_zero, List.set_cons_succ]
            refine wpAnyH_done (by kernel_rfl) ?_ _
            refine NoPanic.normal ?_
            go_wp2_with fail
            go_meet
            have h9 := far_ahead HFr.out hk2 HR5.out HB5.out
            exact far_wide_more HF5.out h9.1 ⟨_, h9.2⟩ HK.out hm HE.out.1 HE.out.2.1 HE.out.2.2 g3 cap3 HOW.out HGR.out HAT.out
          refine AllReadyH.cons rfl (fun K hK => ?_) AllReadyH.nil
          go_simp
          refine (row_far HFr.out.drew' k hk1 hk2).mono ?_
          rintro r w5 ⟨kd, pl, nm, it, dn, ea, ec, el, rfl, HR5, HF5, HB5, k0, k1, k2, k3, k4⟩
          go_wp2_with fail
          refine hK.out _ _ (by (try dsimp only); go_simp) (fun hHeld => ?_)
          clear hK K
          try simp only [Act.put, List.setIfInBounds_toArray, List.set_cons_zero, List.set_cons_succ]
          refine wpAnyH_ready (rs := [9]) (by kernel_rfl) (by simp) ?_
          refine AllReadyH.cons rfl (fun K hK => ?_) AllReadyH.nil
          go_simp
          refine hK.out _ _ (by (try dsimp only); go_simp) (fun hHeld => ?_)
          clear hK K
          try simp only [Act.put, List.setIfInBounds_toArray, List.set_cons_zero, List.set_cons_succ]
          refine takeF (i := 12) (v := ?_) rfl rfl (by kernel_rfl) (by kernel_rfl) (by kernel_rfl) (fun _ _ _ h => h) (Or.inl ⟨by rfl, ?_⟩) (by assumption) ?_
          rotate_left
          · intro w hSw; (try dsimp only at hSw); first | (go_simp; done) | (go_simp; with_reducible rfl)
          try simp only [Act.put, List.setIfInBounds_toArray, List.set_cons_zero, List.set_cons_succ]
          refine wpAnyH_ready (rs := [13]) (by kernel_rfl) (by simp) ?_
          refine AllReadyH.cons rfl (fun K hK => ?_) AllReadyH.nil
          go_simp
          refine hK.out _ _ (by (try dsimp only); go_simp) (fun hHeld => ?_)
          clear hK K
          try simp only [Act.put, List.setIfInBounds_toArray, List.set_cons_zero, List.set_cons_succ]
          refine wpAnyH_ready (rs := [14]) (by kernel_rfl) (by simp) ?_
          refine AllReadyH.cons rfl (fun K hK => ?_) AllReadyH.nil
          refine step_append_lies ((w5.alloc (.cells #[.string ⟨#[120]⟩] 9)).alloc (.cells #[.slice (some ⟨w5.heap.size, 0, none⟩) 1 1, .int .i64 0, .int .u8 kd, .int .i64 pl, .string nm, .int .i64 it, .int .i64 dn, .slice ea el.length ec] 36)) rfl (.tmp 80) (.tmp 85) 27 rfl (B + 2) 36 i0 (.agg #[.slice none 0 0, .int .i64 0, .int .u8 0, .int .i64 0, .string ⟨#[]⟩, .int .i64 0, .int .i64 0, .slice none 0 0]) 8 104 Tryd.underlying27 HI.out HZ0.out HZ1.out HZ2.out rfl (by decide) (.slice va l.length vc) l.length (flatEqs l) (by simp [Act.eval]) ((HF5.out.own.alloc _).alloc _) ⟨w5.heap.size + 1, 0, none⟩ 1 1 (Eqn.cells ⟨some ⟨w5.heap.size, 0, none⟩, 1, [⟨#[120]⟩], 0, ⟨kd, pl, nm, it, dn, ea, ec, el⟩⟩) (by simp [Act.eval]) rfl (by have := news_eq (w5.alloc (.cells #[.string ⟨#[120]⟩] 9)) ⟨some ⟨w5.heap.size, 0, none⟩, 1, [⟨#[120]⟩], 0, ⟨kd, pl, nm, it, dn, ea, ec, el⟩⟩ 36; rw [show (w5.alloc (.cells #[.string ⟨#[120]⟩] 9)).heap.size = w5.heap.size + 1 by simp] at this; exact this) (eq_one _) (by decide) HLen1.out HLen2.out (by have := HF5.out.size; simp; omega) _ rfl ?_
          intro g3 cap3 w6 hown3 hgrow hat hlt3
          obtain ⟨j0, j1, j2, j3, j4⟩ := far_after (HF5.out.alloc' _) hgrow
          have HOW : Hid _ := hown3
          have HGR : Hid _ := hgrow
          have HAT : Hid _ := hat
          clear hown3 hgrow hat
          refine hK.out _ _ (by (try dsimp only); go_simp) (fun hHeld => ?_)
          clear hK K
          try simp only [Act.put, List.setIfInBounds_toArray]
          refine takeF (i := 15) (v := ?_) rfl rfl (by kernel_rfl) (by kernel_rfl) (by kernel_rfl) (fun _ _ _ h => h) (Or.inl ⟨by rfl, ?_⟩) (by assumption) ?_
          rotate_left
          · intro w hSw; (try dsimp only at hSw); first | (go_simp; done) | (go_simp; with_reducible rfl)
          try simp only [Act.put]
          refine takeF (i := 16) (v := ?_) rfl rfl (by kernel_rfl) (by kernel_rfl) (by kernel_rfl) (fun _ _ _ h => h) (Or.inl ⟨by rfl, ?_⟩) (by assumption) ?_
          rotate_left
          · intro w hSw; (try dsimp only at hSw); first | (go_simp; done) | (go_simp; with_reducible rfl)
          try simp only [Act.put]
          refine wpAnyH_ready (rs := [17]) (by kernel_rfl) (by simp) ?_
          refine AllReadyH.cons rfl (fun K hK => ?_) AllReadyH.nil
          go_simp
          refine hK.out _ _ (by (try dsimp only); go_simp) (fun hHeld => ?_)
          clear hK K
          try simp only [Act.put, List.setIfInBounds_toArray, List.set_cons_zero, List.set_cons_succ]
          refine wpAnyH_done (by kernel_rfl) ?_ _
          refine NoPanic.normal ?_
          go_wp2_with fail
          go_meet
          have h9 := far_behind HFr.out HF5.out hk2 HR5.out HB5.out
          exact far_wide_more (HF5.out.alloc' _) h9.1 ⟨_, h9.2⟩ HK.out hm HE.out.1 HE.out.2.1 HE.out.2.2 g3 cap3 HOW.out HGR.out HAT.out
        refine AllReadyH.cons rfl (fun K hK => ?_) ?_
        · skip
          go_simp
          refine hK.out _ _ (by (try dsimp only); go_simp) (fun hHeld => ?_)
          clear hK K
          try simp only [Act.put, List.setIfInBounds_toArray, List.set_cons_zero, List.set_cons_succ]
          refine wpAnyH_ready (rs := [8, 11]) (by kernel_rfl) (by simp) ?_
          refine AllReadyH.cons rfl (fun K hK => ?_) ?_
          · skip
            go_simp
            refine hK.out _ _ (by (try dsimp only); go_simp) (fun hHeld => ?_)
            clear hK K
            try simp only [Act.put, List.setIfInBounds_toArray, List.set_cons_zero, List.set_cons_succ]
            refine wpAnyH_ready (rs := [11]) (by kernel_rfl) (by simp) ?_
            refine AllReadyH.cons rfl (fun K hK => ?_) AllReadyH.nil
            go_simp
            refine (row_far (HFr.out.alloc' _).drew' k hk1 hk2).mono ?_
            rintro r w5 ⟨kd, pl, nm, it, dn, ea, ec, el, rfl, HR5, HF5, HB5, k0, k1, k2, k3, k4⟩
            go_wp2_with fail
            refine hK.out _ _ (by (try dsimp only); go_simp) (fun hHeld => ?_)
            clear hK K
            try simp only [Act.put, List.setIfInBounds_toArray, List.set_cons_zero, List.set_cons_succ]
            refine takeF (i := 12) (v := ?_) rfl rfl (by kernel_rfl) (by kernel_rfl) (by kernel_rfl) (fun _ _ _ h => h) (Or.inl ⟨by rfl, ?_⟩) (by assumption) ?_
            rotate_left
            · intro w hSw; (try dsimp only at hSw); first | (go_simp; done) | (go_simp; with_reducible rfl)
            try simp only [Act.put, List.setIfInBounds_toArray, List.set_cons_zero, List.set_cons_succ]
            refine wpAnyH_ready (rs := [13]) (by kernel_rfl) (by simp) ?_
            refine AllReadyH.cons rfl (fun K hK => ?_) AllReadyH.nil
            go_simp
            refine hK.out _ _ (by (try dsimp only); go_simp) (fun hHeld => ?_)
            clear hK K
            try simp only [Act.put, List.setIfInBounds_toArray, List.set_cons_zero, List.set_cons_succ]
            refine wpAnyH_ready (rs := [14]) (by kernel_rfl) (by simp) ?_
            refine AllReadyH.cons rfl (fun K hK => ?_) AllReadyH.nil
            refine step_append_lies (w5.alloc (.cells #[.slice (some ⟨wr.heap.size, 0, none⟩) 1 1, .int .i64 0, .int .u8 kd, .int .i64 pl, .string nm, .int .i64 it, .int .i64 dn, .slice ea el.length ec] 36)) rfl (.tmp 80) (.tmp 85) 27 rfl (B + 2) 36 i0 (.agg #[.slice none 0 0, .int .i64 0, .int .u8 0, .int .i64 0, .string ⟨#[]⟩, .int .i64 0, .int .i64 0, .slice none 0 0]) 8 104 Tryd.underlying27 HI.out HZ0.out HZ1.out HZ2.out rfl (by decide) (.slice va l.length vc) l.length (flatEqs l) (by simp [Act.eval]) (HF5.out.own.alloc _) ⟨w5.heap.size, 0, none⟩ 1 1 (Eqn.cells ⟨some ⟨wr.heap.size, 0, none⟩, 1, [⟨#[120]⟩], 0, ⟨kd, pl, nm, it, dn, ea, ec, el⟩⟩) (by simp [Act.eval]) rfl (news_eq w5 ⟨some ⟨wr.heap.size, 0, none⟩, 1, [⟨#[120]⟩], 0, ⟨kd, pl, nm, it, dn, ea, ec, el⟩⟩ _) (eq_one _) (by decide) HLen1.out HLen2.out (by have := HF5.out.size; simp; omega) _ rfl ?_
            intro g3 cap3 w6 hown3 hgrow hat hlt3
            obtain ⟨j0, j1, j2, j3, j4⟩ := far_after HF5.out hgrow
            have HOW : Hid _ := hown3
            have HGR : Hid _ := hgrow
            have HAT : Hid _ := hat
            clear hown3 hgrow hat
            refine hK.out _ _ (by (try dsimp only); go_simp) (fun hHeld => ?_)
            clear hK K
            try simp only [Act.put, List.setIfInBounds_toArray]
            refine takeF (i := 15) (v := ?_) rfl rfl (by kernel_rfl) (by kernel_rfl) (by kernel_rfl) (fun _ _ _ h => h) (Or.inl ⟨by rfl, ?_⟩) (by assumption) ?_
            rotate_left
            · intro w hSw; (try dsimp only at hSw); first | (go_simp; done) | (go_simp; with_reducible rfl)
            try simp only [Act.put]
            refine takeF (i := 16) (v := ?_) rfl rfl (by kernel_rfl) (by kernel_rfl) (by kernel_rfl) (fun _ _ _ h => h) (Or.inl ⟨by rfl, ?_⟩) (by assumption) ?_
            rotate_left
            · intro w hSw; (try dsimp only at hSw); first | (go_simp; done) | (go_simp; with_reducible rfl)
            try simp only [Act.put]
            refine wpAnyH_ready (rs := [17]) (by kernel_rfl) (by simp) ?_
            refine AllReadyH.cons rfl (fun K hK => ?_) AllReadyH.nil
            go_simp
            refine hK.out _ _ (by (try dsimp only); go_simp) (fun hHeld => ?_)
            clear hK K
            try simp only [Act.put, List.setIfInBounds_toArray, List.set_cons_zero, List.set_cons_succ]
            refine wpAnyH_done (by kernel_rfl) ?_ _
            refine NoPanic.normal ?_
            go_wp2_with fail
            go_meet
            have h9 := far_ahead HFr.out hk2 HR5.out HB5.out
            exact far_wide_more HF5.out h9.1 ⟨_, h9.2⟩ HK.out hm HE.out.1 HE.out.2.1 HE.out.2.2 g3 cap3 HOW.out HGR.out HAT.out
          refine AllReadyH.cons rfl (fun K hK => ?_) AllReadyH.nil
          go_simp
          refine (row_far (HFr.out.alloc' _).drew' k hk1 hk2).mono ?_
          rintro r w5 ⟨kd, pl, nm, it, dn, ea, ec, el, rfl, HR5, HF5, HB5, k0, k1, k2, k3, k4⟩
          go_wp2_with fail
          refine hK.out _ _ (by (try dsimp only); go_simp) (fun hHeld => ?_)
          clear hK K
          try simp only [Act.put, List.setIfInBounds_toArray, List.set_cons_zero, List.set_cons_succ]
          refine takeF (i := 12) (v := ?_) rfl rfl (by kernel_rfl) (by kernel_rfl) (by kernel_rfl) (fun _ _ _ h => h) (Or.inl ⟨by rfl, ?_⟩) (by assumption) ?_
          rotate_left
          · intro w hSw; (try dsimp only at hSw); first | (go_simp; done) | (go_simp; with_reducible rfl)
          try simp only [Act.put, List.setIfInBounds_toArray, List.set_cons_zero, List.set_cons_succ]
          refine wpAnyH_ready (rs := [8, 13]) (by kernel_rfl) (by simp) ?_
          refine AllReadyH.cons rfl (fun K hK => ?_) ?_
          · skip
            go_simp
            refine hK.out _ _ (by (try dsimp only); go_simp) (fun hHeld => ?_)
            clear hK K
            try simp only [Act.put, List.setIfInBounds_toArray, List.set_cons_zero, List.set_cons_succ]
            refine wpAnyH_ready (rs := [13]) (by kernel_rfl) (by simp) ?_
            refine AllReadyH.cons rfl (fun K hK => ?_) AllReadyH.nil
            go_simp
            refine hK.out _ _ (by (try dsimp only); go_simp) (fun hHeld => ?_)
            clear hK K
            try simp only [Act.put, List.setIfInBounds_toArray, List.set_cons_zero, List.set_cons_succ]
            refine wpAnyH_ready (rs := [14]) (by kernel_rfl) (by simp) ?_
            refine AllReadyH.cons rfl (fun K hK => ?_) AllReadyH.nil
            refine step_append_lies (w5.alloc (.cells #[.slice (some ⟨wr.heap.size, 0, none⟩) 1 1, .int .i64 0, .int .u8 kd, .int .i64 pl, .string nm, .int .i64 it, .int .i64 dn, .slice ea el.length ec] 36)) rfl (.tmp 80) (.tmp 85) 27 rfl (B + 2) 36 i0 (.agg #[.slice none 0 0, .int .i64 0, .int .u8 0, .int .i64 0, .string ⟨#[]⟩, .int .i64 0, .int .i64 0, .slice none 0 0]) 8 104 Tryd.underlying27 HI.out HZ0.out HZ1.out HZ2.out rfl (by decide) (.slice va l.length vc) l.length (flatEqs l) (by simp [Act.eval]) (HF5.out.own.alloc _) ⟨w5.heap.size, 0, none⟩ 1 1 (Eqn.cells ⟨some ⟨wr.heap.size, 0, none⟩, 1, [⟨#[120]⟩], 0, ⟨kd, pl, nm, it, dn, ea, ec, el⟩⟩) (by simp [Act.eval]) rfl (news_eq w5 ⟨some ⟨wr.heap.size, 0, none⟩, 1, [⟨#[120]⟩], 0, ⟨kd, pl, nm, it, dn, ea, ec, el⟩⟩ _) (eq_one _) (by decide) HLen1.out HLen2.out (by have := HF5.out.size; simp; omega) _ rfl ?_
            intro g3 cap3 w6 hown3 hgrow hat hlt3
            obtain ⟨j0, j1, j2, j3, j4⟩ := far_after HF5.out hgrow
            have HOW : Hid _ := hown3
            have HGR : Hid _ := hgrow
            have HAT : Hid _ := hat
            clear hown3 hgrow hat
            refine hK.out _ _ (by (try dsimp only); go_simp) (fun hHeld => ?_)
            clear hK K
            try simp only [Act.put, List.setIfInBounds_toArray]
            refine takeF (i := 15) (v := ?_) rfl rfl (by kernel_rfl) (by kernel_rfl) (by kernel_rfl) (fun _ _ _ h => h) (Or.inl ⟨by rfl, ?_⟩) (by assumption) ?_
            rotate_left
            · intro w hSw; (try dsimp only at hSw); first | (go_simp; done) | (go_simp; with_reducible rfl)
            try simp only [Act.put]
            refine takeF (i := 16) (v := ?_) rfl rfl (by kernel_rfl) (by kernel_rfl) (by kernel_rfl) (fun _ _ _ h => h) (Or.inl ⟨by rfl, ?_⟩) (by assumption) ?_
            rotate_left
            · intro w hSw; (try dsimp only at hSw); first | (go_simp; done) | (go_simp; with_reducible rfl)
            try simp only [Act.put]
            refine wpAnyH_ready (rs := [17]) (by kernel_rfl) (by simp) ?_
            refine AllReadyH.cons rfl (fun K hK => ?_) AllReadyH.nil
            go_simp
            refine hK.out _ _ (by (try dsimp only); go_simp) (fun hHeld => ?_)
            clear hK K
            try simp only [Act.put, List.setIfInBounds_toArray, List.set_cons_zero, List.set_cons_succ]
            refine wpAnyH_done (by kernel_rfl) ?_ _
            refine NoPanic.normal ?_
            go_wp2_with fail
            go_meet
            have h9 := far_ahead HFr.out hk2 HR5.out HB5.out
            exact far_wide_more HF5.out h9.1 ⟨_, h9.2⟩ HK.out hm HE.out.1 HE.out.2.1 HE.out.2.2 g3 cap3 HOW.out HGR.out HAT.out
          refine AllReadyH.cons rfl (fun K hK => ?_) AllReadyH.nil
          go_simp
          refine hK.out _ _ (by (try dsimp only); go_simp) (fun hHeld => ?_)
          clear hK K
          try simp only [Act.put, List.setIfInBounds_toArray, List.set_cons_zero, List.set_cons_succ]
          refine wpAnyH_ready (rs := [8]) (by kernel_rfl) (by simp) ?_
          refine AllReadyH.cons rfl (fun K hK => ?_) AllReadyH.nil
          go_simp
          refine hK.out _ _ (by (try dsimp only); go_simp) (fun hHeld => ?_)
          clear hK K
          try simp only [Act.put, List.setIfInBounds_toArray, List.set_cons_zero, List.set_cons_succ]
          refine wpAnyH_ready (rs := [14]) (by kernel_rfl) (by simp) ?_
          refine AllReadyH.cons rfl (fun K hK => ?_) AllReadyH.nil
          refine step_append_lies (w5.alloc (.cells #[.slice (some ⟨wr.heap.size, 0, none⟩) 1 1, .int .i64 0, .int .u8 kd, .int .i64 pl, .string nm, .int .i64 it, .int .i64 dn, .slice ea el.length ec] 36)) rfl (.tmp 80) (.tmp 85) 27 rfl (B + 2) 36 i0 (.agg #[.slice none 0 0, .int .i64 0, .int .u8 0, .int .i64 0, .string ⟨#[]⟩, .int .i64 0, .int .i64 0, .slice none 0 0]) 8 104 Tryd.underlying27 HI.out HZ0.out HZ1.out HZ2.out rfl (by decide) (.slice va l.length vc) l.length (flatEqs l) (by simp [Act.eval]) (HF5.out.own.alloc _) ⟨w5.heap.size, 0, none⟩ 1 1 (Eqn.cells ⟨some ⟨wr.heap.size, 0, none⟩, 1, [⟨#[120]⟩], 0, ⟨kd, pl, nm, it, dn, ea, ec, el⟩⟩) (by simp [Act.eval]) rfl (news_eq w5 ⟨some ⟨wr.heap.size, 0, none⟩, 1, [⟨#[120]⟩], 0, ⟨kd, pl, nm, it, dn, ea, ec, el⟩⟩ _) (eq_one _) (by decide) HLen1.out HLen2.out (by have := HF5.out.size; simp; omega) _ rfl ?_
          intro g3 cap3 w6 hown3 hgrow hat hlt3
          obtain ⟨j0, j1, j2, j3, j4⟩ := far_after HF5.out hgrow
          have HOW : Hid _ := hown3
          have HGR : Hid _ := hgrow
          have HAT : Hid _ := hat
          clear hown3 hgrow hat
          refine hK.out _ _ (by (try dsimp only); go_simp) (fun hHeld => ?_)
          clear hK K
          try simp only [Act.put, List.setIfInBounds_toArray]
          refine takeF (i := 15) (v := ?_) rfl rfl (by kernel_rfl) (by kernel_rfl) (by kernel_rfl) (fun _ _ _ h => h) (Or.inl ⟨by rfl, ?_⟩) (by assumption) ?_
          rotate_left
          · intro w hSw; (try dsimp only at hSw); first | (go_simp; done) | (go_simp; with_reducible rfl)
          try simp only [Act.put]
          refine takeF (i := 16) (v := ?_) rfl rfl (by kernel_rfl) (by kernel_rfl) (by kernel_rfl) (fun _ _ _ h => h) (Or.inl ⟨by rfl, ?_⟩) (by assumption) ?_
          rotate_left
          · intro w hSw; (try dsimp only at hSw); first | (go_simp; done) | (go_simp; with_reducible rfl)
          try simp only [Act.put]
          refine wpAnyH_ready (rs := [17]) (by kernel_rfl) (by simp) ?_
          refine AllReadyH.cons rfl (fun K hK => ?_) AllReadyH.nil
          go_simp
          refine hK.out _ _ (by (try dsimp only); go_simp) (fun hHeld => ?_)
          clear hK K
          try simp only [Act.put, List.setIfInBounds_toArray, List.set_cons_zero, List.set_cons_succ]
          refine wpAnyH_done (by kernel_rfl) ?_ _
          refine NoPanic.normal ?_
          go_wp2_with fail
          go_meet
          have h9 := far_ahead HFr.out hk2 HR5.out HB5.out
          exact far_wide_more HF5.out h9.1 ⟨_, h9.2⟩ HK.out hm HE.out.1 HE.out.2.1 HE.out.2.2 g3 cap3 HOW.out HGR.out HAT.out
        refine AllReadyH.cons rfl (fun K hK => ?_) AllReadyH.nil
        go_simp
        refine (row_far HFr.out.drew' k hk1 hk2).mono ?_
        rintro r w5 ⟨kd, pl, nm, it, dn, ea, ec, el, rfl, HR5, HF5, HB5, k0, k1, k2, k3, k4⟩
        go_wp2_with fail
        refine hK.out _ _ (by (try dsimp only); go_simp) (fun hHeld => ?_)
        clear hK K
        try simp only [Act.put, List.setIfInBounds_toArray, List.set_cons_zero, List.set_cons_succ]
        refine wpAnyH_ready (rs := [8, 9]) (by kernel_rfl) (by simp) ?_
        refine AllReadyH.cons rfl (fun K hK => ?_) ?_
        · skip
          go_simp
          refine hK.out _ _ (by (try dsimp only); go_simp) (fun hHeld => ?_)
          clear hK K
          try simp only [Act.put, List.setIfInBounds_toArray, List.set_cons_zero, List.set_cons_succ]
          refine wpAnyH_ready (rs := [9]) (by kernel_rfl) (by simp) ?_
          refine AllReadyH.cons rfl (fun K hK => ?_) AllReadyH.nil
          go_simp
          refine hK.out _ _ (by (try dsimp only); go_simp) (fun hHeld => ?_)
          clear hK K
          try simp only [Act.put, List.setIfInBounds_toArray, List.set_cons_zero, List.set_cons_succ]
          refine takeF (i := 12) (v := ?_) rfl rfl (by kernel_rfl) (by kernel_rfl) (by kernel_rfl) (fun _ _ _ h => h) (Or.inl ⟨by rfl, ?_⟩) (by assumption) ?_
          rotate_left
          · intro w hSw; (try dsimp only at hSw); first | (go_simp; done) | (go_simp; with_reducible rfl)
          try simp only [Act.put, List.setIfInBounds_toArray, List.set_cons_zero, List.set_cons_succ]
          refine wpAnyH_ready (rs := [13]) (by kernel_rfl) (by simp) ?_
          refine AllReadyH.cons rfl (fun K hK => ?_) AllReadyH.nil
          go_simp
          refine hK.out _ _ (by (try dsimp only); go_simp) (fun hHeld => ?_)
          clear hK K
          try simp only [Act.put, List.setIfInBounds_toArray, List.set_cons_zero, List.set_cons_succ]
          refine wpAnyH_ready (rs := [14]) (by kernel_rfl) (by simp) ?_
          refine AllReadyH.cons rfl (fun K hK => ?_) AllReadyH.nil
          refine step_append_lies ((w5.alloc (.cells #[.string ⟨#[120]⟩] 9)).alloc (.cells #[.slice (some ⟨w5.heap.size, 0, none⟩) 1 1, .int .i64 0, .int .u8 kd, .int .i64 pl, .string nm, .int .i64 it, .int .i64 dn, .slice ea el.length ec] 36)) rfl (.tmp 80) (.tmp 85) 27 rfl (B + 2) 36 i0 (.agg #[.slice none 0 0, .int .i64 0, .int .u8 0, .int .i64 0, .string ⟨#[]⟩, .int .i64 0, .int .i64 0, .slice none 0 0]) 8 104 Tryd.underlying27 HI.out HZ0.out HZ1.out HZ2.out rfl (by decide) (.slice va l.length vc) l.length (flatEqs l) (by simp [Act.eval]) ((HF5.out.own.alloc _).alloc _) ⟨w5.heap.size + 1, 0, none⟩ 1 1 (Eqn.cells ⟨some ⟨w5.heap.size, 0, none⟩, 1, [⟨#[120]⟩], 0, ⟨kd, pl, nm, it, dn, ea, ec, el⟩⟩) (by simp [Act.eval]) rfl (by have := news_eq (w5.alloc (.cells #[.string ⟨#[120]⟩] 9)) ⟨some ⟨w5.heap.size, 0, none⟩, 1, [⟨#[120]⟩], 0, ⟨kd, pl, nm, it, dn, ea, ec, el⟩⟩ 36; rw [show (w5.alloc (.cells #[.string ⟨#[120]⟩] 9)).heap.size = w5.heap.size + 1 by simp] at this; exact this) (eq_one _) (by decide) HLen1.out HLen2.out (by have := HF5.out.size; simp; omega) _ rfl ?_
          intro g3 cap3 w6 hown3 hgrow hat hlt3
          obtain ⟨j0, j1, j2, j3, j4⟩ := far_after (HF5.out.alloc' _) hgrow
          have HOW : Hid _ := hown3
          have HGR : Hid _ := hgrow
          have HAT : Hid _ := hat
          clear hown3 hgrow hat
          refine hK.out _ _ (by (try dsimp only); go_simp) (fun hHeld => ?_)
          clear hK K
          try simp only [Act.put, List.setIfInBounds_toArray]
          refine takeF (i := 15) (v := ?_) rfl rfl (by kernel_rfl) (by kernel_rfl) (by kernel_rfl) (fun _ _ _ h => h) (Or.inl ⟨by rfl, ?_⟩) (by assumption) ?_
          rotate_left
          · intro w hSw; (try dsimp only at hSw); first | (go_simp; done) | (go_simp; with_reducible rfl)
          try simp only [Act.put]
          refine takeF (i := 16) (v := ?_) rfl rfl (by kernel_rfl) (by kernel_rfl) (by kernel_rfl) (fun _ _ _ h => h) (Or.inl ⟨by rfl, ?_⟩) (by assumption) ?_
          rotate_left
          · intro w hSw; (try dsimp only at hSw); first | (go_simp; done) | (go_simp; with_reducible rfl)
          try simp only [Act.put]
          refine wpAnyH_ready (rs := [17]) (by kernel_rfl) (by simp) ?_
          refine AllReadyH.cons rfl (fun K hK => ?_) AllReadyH.nil
          go_simp
          refine hK.out _ _ (by (try dsimp only); go_simp) (fun hHeld => ?_)
          clear hK K
          try simp only [Act.put, List.setIfInBounds_toArray, List.set_cons_zero, List.set_cons_succ]
          refine wpAnyH_done (by kernel_rfl) ?_ _
          refine NoPanic.normal ?_
          go_wp2_with fail
          go_meet
          have h9 := far_behind HFr.out HF5.out hk2 HR5.out HB5.out
          exact far_wide_more (HF5.out.alloc' _) h9.1 ⟨_, h9.2⟩ HK.out hm HE.out.1 HE.out.2.1 HE.out.2.2 g3 cap3 HOW.out HGR.out HAT.out
        refine AllReadyH.cons rfl (fun K hK => ?_) AllReadyH.nil
        go_simp
        refine hK.out _ _ (by (try dsimp only); go_simp) (fun hHeld => ?_)
        clear hK K
        try simp only [Act.put, List.setIfInBounds_toArray, List.set_cons_zero, List.set_cons_succ]
        refine takeF (i := 12) (v := ?_) rfl rfl (by kernel_rfl) (by kernel_rfl) (by kernel_rfl) (fun _ _ _ h => h) (Or.inl ⟨by rfl, ?_⟩) (by assumption) ?_
        rotate_left
        · intro w hSw; (try dsimp only at hSw); first | (go_simp; done) | (go_simp; with_reducible rfl)
        try simp only [Act.put, List.setIfInBounds_toArray, List.set_cons_zero, List.set_cons_succ]
        refine wpAnyH_ready (rs := [8, 13]) (by kernel_rfl) (by simp) ?_
        refine AllReadyH.cons rfl (fun K hK => ?_) ?_
        · skip
          go_simp
          refine hK.out _ _ (by (try dsimp only); go_simp) (fun hHeld => ?_)
          clear hK K
          try simp only [Act.put, List.setIfInBounds_toArray, List.set_cons_zero, List.set_cons_succ]
          refine wpAnyH_ready (rs := [13]) (by kernel_rfl) (by simp) ?_
          refine AllReadyH.cons rfl (fun K hK => ?_) AllReadyH.nil
          go_simp
          refine hK.out _ _ (by (try dsimp only); go_simp) (fun hHeld => ?_)
          clear hK K
          try simp only [Act.put, List.setIfInBounds_toArray, List.set_cons_zero, List.set_cons_succ]
          refine wpAnyH_ready (rs := [14]) (by kernel_rfl) (by simp) ?_
          refine AllReadyH.cons rfl (fun K hK => ?_) AllReadyH.nil
          refine step_append_lies ((w5.alloc (.cells #[.string ⟨#[120]⟩] 9)).alloc (.cells #[.slice (some ⟨w5.heap.size, 0, none⟩) 1 1, .int .i64 0, .int .u8 kd, .int .i64 pl, .string nm, .int .i64 it, .int .i64 dn, .slice ea el.length ec] 36)) rfl (.tmp 80) (.tmp 85) 27 rfl (B + 2) 36 i0 (.agg #[.slice none 0 0, .int .i64 0, .int .u8 0, .int .i64 0, .string ⟨#[]⟩, .int .i64 0, .int .i64 0, .slice none 0 0]) 8 104 Tryd.underlying27 HI.out HZ0.out HZ1.out HZ2.out rfl (by decide) (.slice va l.length vc) l.length (flatEqs l) (by simp [Act.eval]) ((HF5.out.own.alloc _).alloc _) ⟨w5.heap.size + 1, 0, none⟩ 1 1 (Eqn.cells ⟨some ⟨w5.heap.size, 0, none⟩, 1, [⟨#[120]⟩], 0, ⟨kd, pl, nm, it, dn, ea, ec, el⟩⟩) (by simp [Act.eval]) rfl (by have := news_eq (w5.alloc (.cells #[.string ⟨#[120]⟩] 9)) ⟨some ⟨w5.heap.size, 0, none⟩, 1, [⟨#[120]⟩], 0, ⟨kd, pl, nm, it, dn, ea, ec, el⟩⟩ 36; rw [show (w5.alloc (.cells #[.string ⟨#[120]⟩] 9)).heap.size = w5.heap.size + 1 by simp] at this; exact this) (eq_one _) (by decide) HLen1.out HLen2.out (by have := HF5.out.size; simp; omega) _ rfl ?_
          intro g3 cap3 w6 hown3 hgrow hat hlt3
          obtain ⟨j0, j1, j2, j3, j4⟩ := far_after (HF5.out.alloc' _) hgrow
          have HOW : Hid _ := hown3
          have HGR : Hid _ := hgrow
          have HAT : Hid _ := hat
          clear hown3 hgrow hat
          refine hK.out _ _ (by (try dsimp only); go_simp) (fun hHeld => ?_)
          clear hK K
          try simp only [Act.put, List.setIfInBounds_toArray]
          refine takeF (i := 15) (v := ?_) rfl rfl (by kernel_rfl) (by kernel_rfl) (by kernel_rfl) (fun _ _ _ h => h) (Or.inl ⟨by rfl, ?_⟩) (by assumption) ?_
          rotate_left
          · intro w hSw; (try dsimp only at hSw); first | (go_simp; done) | (go_simp; with_reducible rfl)
          try simp only [Act.put]
          refine takeF (i := 16) (v := ?_) rfl rfl (by kernel_rfl) (by kernel_rfl) (by kernel_rfl) (fun _ _ _ h => h) (Or.inl ⟨by rfl, ?_⟩) (by assumption) ?_
          rotate_left
          · intro w hSw; (try dsimp only at hSw); first | (go_simp; done) | (go_simp; with_reducible rfl)
          try simp only [Act.put]
          refine wpAnyH_ready (rs := [17]) (by kernel_rfl) (by simp) ?_
          refine AllReadyH.cons rfl (fun K hK => ?_) AllReadyH.nil
          go_simp
          refine hK.out _ _ (by (try dsimp only); go_simp) (fun hHeld => ?_)
          clear hK K
          try simp only [Act.put, List.setIfInBounds_toArray, List.set_cons_zero, List.set_cons_succ]
          refine wpAnyH_done (by kernel_rfl) ?_ _
          refine NoPanic.normal ?_
          go_wp2_with fail
          go_meet
          have h9 := far_behind HFr.out HF5.out hk2 HR5.out HB5.out
          exact far_wide_more (HF5.out.alloc' _) h9.1 ⟨_, h9.2⟩ HK.out hm HE.out.1 HE.out.2.1 HE.out.2.2 g3 cap3 HOW.out HGR.out HAT.out
        refine AllReadyH.cons rfl (fun K hK => ?_) AllReadyH.nil
        go_simp
        refine hK.out _ _ (by (try dsimp only); go_simp) (fun hHeld => ?_)
        clear hK K
        try simp only [Act.put, List.setIfInBounds_toArray, List.set_cons_zero, List.set_cons_succ]
        refine wpAnyH_ready (rs := [8]) (by kernel_rfl) (by simp) ?_
        refine AllReadyH.cons rfl (fun K hK => ?_) AllReadyH.nil
        go_simp
        refine hK.out _ _ (by (try dsimp only); go_simp) (fun hHeld => ?_)
        clear hK K
        try simp only [Act.put, List.setIfInBounds_toArray, List.set_cons_zero, List.set_cons_succ]
        refine wpAnyH_ready (rs := [14]) (by kernel_rfl) (by simp) ?_
        refine AllReadyH.cons rfl (fun K hK => ?_) AllReadyH.nil
        refine step_append_lies ((w5.alloc (.cells #[.string ⟨#[120]⟩] 9)).alloc (.cells #[.slice (some ⟨w5.heap.size, 0, none⟩) 1 1, .int .i64 0, .int .u8 kd, .int .i64 pl, .string nm, .int .i64 it, .int .i64 dn, .slice ea el.length ec] 36)) rfl (.tmp 80) (.tmp 85) 27 rfl (B + 2) 36 i0 (.agg #[.slice none 0 0, .int .i64 0, .int .u8 0, .int .i64 0, .string ⟨#[]⟩, .int .i64 0, .int .i64 0, .slice none 0 0]) 8 104 Tryd.underlying27 HI.out HZ0.out HZ1.out HZ2.out rfl (by decide) (.slice va l.length vc) l.length (flatEqs l) (by simp [Act.eval]) ((HF5.out.own.alloc _).alloc _) ⟨w5.heap.size + 1, 0, none⟩ 1 1 (Eqn.cells ⟨some ⟨w5.heap.size, 0, none⟩, 1, [⟨#[120]⟩], 0, ⟨kd, pl, nm, it, dn, ea, ec, el⟩⟩) (by simp [Act.eval]) rfl (by have := news_eq (w5.alloc (.cells #[.string ⟨#[120]⟩] 9)) ⟨some ⟨w5.heap.size, 0, none⟩, 1, [⟨#[120]⟩], 0, ⟨kd, pl, nm, it, dn, ea, ec, el⟩⟩ 36; rw [show (w5.alloc (.cells #[.string ⟨#[120]⟩] 9)).heap.size = w5.heap.size + 1 by simp] at this; exact this) (eq_one _) (by decide) HLen1.out HLen2.out (by have := HF5.out.size; simp; omega) _ rfl ?_
        intro g3 cap3 w6 hown3 hgrow hat hlt3
        obtain ⟨j0, j1, j2, j3, j4⟩ := far_after (HF5.out.alloc' _) hgrow
        have HOW : Hid _ := hown3
        have HGR : Hid _ := hgrow
        have HAT : Hid _ := hat
        clear hown3 hgrow hat
        refine hK.out _ _ (by (try dsimp only); go_simp) (fun hHeld => ?_)
        clear hK K
        try simp only [Act.put, List.setIfInBounds_toArray]
        refine takeF (i := 15) (v := ?_) rfl rfl (by kernel_rfl) (by kernel_rfl) (by kernel_rfl) (fun _ _ _ h => h) (Or.inl ⟨by rfl, ?_⟩) (by assumption) ?_
        rotate_left
        · intro w hSw; (try dsimp only at hSw); first | (go_simp; done) | (go_simp; with_reducible rfl)
        try simp only [Act.put]
        refine takeF (i := 16) (v := ?_) rfl rfl (by kernel_rfl) (by kernel_rfl) (by kernel_rfl) (fun _ _ _ h => h) (Or.inl ⟨by rfl, ?_⟩) (by assumption) ?_
        rotate_left
        · intro w hSw; (try dsimp only at hSw); first | (go_simp; done) | (go_simp; with_reducible rfl)
        try simp only [Act.put]
        refine wpAnyH_ready (rs := [17]) (by kernel_rfl) (by simp) ?_
        refine AllReadyH.cons rfl (fun K hK => ?_) AllReadyH.nil
        go_simp
        refine hK.out _ _ (by (try dsimp only); go_simp) (fun hHeld => ?_)
        clear hK K
        try simp only [Act.put, List.setIfInBounds_toArray, List.set_cons_zero, List.set_cons_succ]
        refine wpAnyH_done (by kernel_rfl) ?_ _
        refine NoPanic.normal ?_
        go_wp2_with fail
        go_meet
        have h9 := far_behind HFr.out HF5.out hk2 HR5.out HB5.out
        exact far_wide_more (HF5.out.alloc' _) h9.1 ⟨_, h9.2⟩ HK.out hm HE.out.1 HE.out.2.1 HE.out.2.2 g3 cap3 HOW.out HGR.out HAT.out
        --b
      case rest =>
        go_wp2_with fail
        go_roundw
        case rel => exact ⟨m - k, by rw [Int.ofNat_sub hkm], hcut⟩
        case measure => simp [intOf]; omega
    · obtain rfl : m = 0 := by omega
      have hs : eqSizes l = M := by omega
      have MM : Hid (∀ w', Below wr.heap.size wr w' → Calls Tryd.prog 10 #[.agg #[.slice (some ⟨B + 1, 0, none⟩) 1 1]] w' fun x w'' => x = .returned (.int .i64 (if 4096 < M then 42 else 0)) ∧ Below w'.heap.size w' w'') := by
        intro w' hb
        have := far_mays hF (by omega) (by omega) HT.out HB.out w' hb
        simp only [hs, if_neg (show ¬ 64 < eqDeep l by omega)] at this
        exact this
      have hb0 : Below w.heap.size w wr := by have := hF.below; rw [HB.out] at this; exact this
      have HBW : Hid (Below w.heap.size w wr) := hb0
      have HA : Hid (∀ w', Below wr.heap.size wr w' → Calls Tryd.prog 11 #[] w' fun x w'' => x = .returned (.bool true) ∧ Below w'.heap.size w' w'') := fun w' hb => alive_calls w' (HT.out.below (hb0.trans (hb.mono hb0.size)))
      clear hF e1 e2 e3 e4 hb0 HF HF0 HFr
      by_cases ho : 0 < o
      · simp only [if_pos (show 4096 < M by omega)] at MM
        go_wp2_with (first
          | (go_at_call 10; refine (MM.out _ (Below.refl _ _)).mono ?_; rintro x w1 ⟨rfl, hb1⟩; have K1 : Hid _ := hb1; clear hb1)
          | (go_at_call 11; refine (HA.out _ K1.out).mono ?_; rintro x w3 ⟨rfl, hb3⟩; have K3 : Hid (Below wr.heap.size wr w3) := K1.out.trans (hb3.mono K1.out.size); clear hb3))
        all_goals go_ret
        all_goals exact ⟨rfl, HBW.out.trans (K3.out.mono HBW.out.size)⟩
      · simp only [if_neg (show ¬ 4096 < M by omega)] at MM
        go_wp2_with (first
          | (go_at_call 10; refine (MM.out _ (Below.refl _ _)).mono ?_; rintro x w1 ⟨rfl, hb1⟩; have K1 : Hid _ := hb1; clear hb1)
          | (go_at_call 11; refine (HA.out _ K1.out).mono ?_; rintro x w3 ⟨rfl, hb3⟩; have K3 : Hid (Below wr.heap.size wr w3) := K1.out.trans (hb3.mono K1.out.size); clear hb3))
        all_goals go_ret
        all_goals exact ⟨rfl, HBW.out.trans (K3.out.mono HBW.out.size)⟩
end Go.Proofs.YthbjagmlcemefaaDoor
