/- The statement TreeAdds, walked (written by gen_adds.py). -/
import Derived.Test.YtbgndapaccdjoaaDoorTreeAlive
namespace Go.Proofs.YtbgndapaccdjoaaDoor
open Go.RowKit
open Ex.size Ex.depth Ex.lies Ex.bulk Ex.good Ex.same Ex.shape Ex.calls
attribute [local go_sem] later_size later_cell later_frozen later_setCell later_drew later_drewN later_tape drewN_setCell drewN_alloc drewN_later later_later lt_more lt_more1 lt_more2 lt_more3 lt_more4 lk0_0_1 lk1_0_1 lk2_0_1 lk0_0_2 lk1_0_2 lk2_0_2 lk0_1_2 lk0_0_3 lk1_0_3 lk2_0_3 lk0_1_3 lk0_2_3 lk0_0_4 lk1_0_4 lk2_0_4 lk0_1_4 lk0_2_4 lk0_3_4 lk0_0_5 lk1_0_5 lk2_0_5 lk0_1_5 lk0_2_5 lk0_3_5 lk0_4_5 lk0_0_6 lk1_0_6 lk2_0_6 lk0_1_6 lk0_2_6 lk0_3_6 lk0_4_6 lk0_5_6 lk0_0_7 lk1_0_7 lk2_0_7 lk0_1_7 lk0_2_7 lk0_3_7 lk0_4_7 lk0_5_7 lk0_6_7
/-- What an append leaves: the box and what is below. -/
theorem grown_box {w W0 w1 w2 : World} {v : Value} {n : Nat} {xs : List Value} (hb : Below (w.heap.size + 1) W0 w1) (ho : w1.ownsRow (w.heap.size + 1) 9 1 v n xs) (hg : w1.grownBy w2 v.ownBlock) (hs : w.heap.size + 1 ≤ w1.heap.size) : Below (w.heap.size + 1) W0 w2 :=
  hb.grown hg hs (fun k hk => (ho.lt k hk).1)
set_option maxRecDepth 100000 in
set_option maxHeartbeats 12800000 in
theorem adds_walk (e : Ex) (he : e.bulk ≤ 1048576) (hg : e.good) (w : World) (hl : e.lies w) (ht : HasTab w) : Calls Tryd.prog 8 #[e.val] w fun x w' => x = .returned (.bool true) ∧ Below w.heap.size w w' := by
  obtain ⟨i0, hi, hz0', hz1, hz2⟩ := info_parts Tryd.infoText
  obtain ⟨W0, hW0⟩ : ∃ W0 : World, W0 = w.alloc (.cells e.cells.toArray 24) := ⟨_, rfl⟩
  have hb0 : Below w.heap.size w W0 := by rw [hW0]; exact (Below.refl _ _).alloc (Nat.le_refl _) _
  have hl0 : e.lies W0 := lies_below hb0 _ hl
  have ht0 : HasTab W0 := ht.below hb0
  have hs0 : W0.heap.size = w.heap.size + 1 := by rw [hW0]; simp
  have CH := heavy_calls e he W0 hl0
  have upB : ∀ {w'}, Below (w.heap.size + 1) W0 w' → Below W0.heap.size W0 w' := fun h => by rw [hs0]; exact h
  have up : ∀ {w'}, Below (w.heap.size + 1) W0 w' → e.lies w' := fun h => lies_below (upB h) _ hl0
  have hbx : ∀ j, j < 6 → W0.cell? ⟨w.heap.size, j, none⟩ = e.cells[j]? := fun j hj => by rw [hW0]; exact cell_alloc_eq rfl
  have HBoxE : ∀ w', Below (w.heap.size + 1) W0 w' → ∀ j, j < 6 → w'.cell? ⟨w.heap.size, j, none⟩ = e.cells[j]? := fun w' h j hj => (h.cell (p := ⟨w.heap.size, j, none⟩) (by show w.heap.size < w.heap.size + 1; omega)).trans (hbx j hj)
  have HAlive : Hid (∀ w', Below (w.heap.size + 1) W0 w' → Calls Tryd.prog 10 #[] w' fun x w'' => x = .returned (.bool true) ∧ Below w'.heap.size w' w'') := fun w' h => alive_calls w' (ht0.below (upB h))
  have HSize : Hid (∀ w', Below (w.heap.size + 1) W0 w' → Calls Tryd.prog 13 #[e.val] w' fun x w'' => x = .returned (.int .i64 e.size) ∧ Below w'.heap.size w' w'') := fun w' h => size_prog e he hg w' (up h)
  have HDepth : Hid (∀ w', Below (w.heap.size + 1) W0 w' → Calls Tryd.prog 15 #[e.val] w' fun x w'' => x = .returned (.int .i64 e.depth) ∧ Below w'.heap.size w' w'') := fun w' h => depth_prog e he hg w' (up h)
  have HCalls : Hid (∀ w', Below (w.heap.size + 1) W0 w' → Calls Tryd.prog 18 #[e.val] w' fun x w'' => ∃ v, x = .returned v ∧ Mine w'' w'.heap.size v e.calls ∧ Below w'.heap.size w' w'') := fun w' h => calls_prog e he hg w' (up h)
  have hsb := size_bulk e
  generalize heavyB e = hv at *
  obtain ⟨kd, pl, nm, it, dn, a, cap, l⟩ := e
  obtain ⟨n, hN⟩ : ∃ n, n = l.length := ⟨_, rfl⟩
  have HN : Hid (n = l.length) := hN
  have HG : Hid (1 + sizes l ≤ 1048576) := by simp only [Ex.size] at hsb; rw [Hid]; omega
  have HBk : Hid (bulks l ≤ 1048576) := by simp only [Ex.bulk] at he; rw [Hid]; omega
  have HGs : Hid (goods l) := hg.2
  have HLies : Hid (∃ b o, (l ≠ [] → a = some ⟨b, o, none⟩) ∧ lieAt w b o l) := hl
  have hnb : n ≤ 1048576 := by have h1 := len_sizes l; have := HG.out; omega
  obtain ⟨H, hH⟩ : ∃ H : List ByteArray, H = if kd = 4 then [nm] else [] := ⟨_, rfl⟩
  have HH1 : Hid (H.length ≤ 1) := by rw [Hid, hH]; split <;> simp
  have HCE : Ex.calls (.mk kd pl nm it dn a cap l) = H ++ callsAll l := by rw [Ex.calls, hH]
  have HB0 : Hid (Below w.heap.size w W0) := hb0
  have HS0 : Hid (W0.heap.size = w.heap.size + 1) := hs0
  simp only [HCE] at HCalls
  simp only [Ex.size, Ex.depth] at HSize HDepth
  simp only [Ex.val, Ex.cells, List.toArray] at CH HSize HDepth HCalls hW0 ⊢
  simp only [← hN] at CH HSize HDepth HCalls hW0 ⊢
  have HBox : Hid (∀ w', Below (w.heap.size + 1) W0 w' → w'.cell? ⟨w.heap.size, 0, none⟩ = some (.int .u8 kd) ∧ w'.cell? ⟨w.heap.size, 1, none⟩ = some (.int .i64 pl) ∧ w'.cell? ⟨w.heap.size, 2, none⟩ = some (.string nm) ∧ w'.cell? ⟨w.heap.size, 3, none⟩ = some (.int .i64 it) ∧ w'.cell? ⟨w.heap.size, 4, none⟩ = some (.int .i64 dn) ∧ w'.cell? ⟨w.heap.size, 5, none⟩ = some (.slice a n cap)) := fun w' h => ⟨HBoxE w' h 0 (by omega), HBoxE w' h 1 (by omega), HBoxE w' h 2 (by omega), HBoxE w' h 3 (by omega), HBoxE w' h 4 (by omega), by rw [hN]; exact HBoxE w' h 5 (by omega)⟩
  have HW0 : Hid _ := hW0
  clear hbx up upB hl0 ht0 hb0 hs0 hl ht hg he hsb hW0 HBoxE hN HCE
  cases hv
  · by_cases h4 : kd = 4
    · subst h4
      rw [if_pos rfl] at hH
      have HHe : Hid (H = [nm]) := hH
      clear hH
      go_enter Tryd.func8, Tryd.ntmps8
      go_wp2_with fail
      rw [← HW0.out]
      refine CH.mono ?_
      rintro x w1 ⟨rfl, hb1⟩
      have HB1 : Hid (Below (w.heap.size + 1) W0 w1) := by have := HS0.out; rw [this] at hb1; exact hb1
      obtain ⟨y0, y1, y2, y3, y4, y5⟩ := HBox.out w1 HB1.out
      have HSz1 : Hid (w.heap.size + 1 ≤ w1.heap.size) := by have h1 := HB1.out.size; have h2 := HS0.out; rw [Hid]; omega
      have hl1 : w.heap.size < w1.heap.size := HSz1.out
      have HO0 : Hid ((w1.alloc (.cells #[.string nm] 9)).ownsRow (w.heap.size + 1) 9 1 (.slice none 0 0) 0 []) := World.ownsRow_nil _ _ _ _
      clear CH hb1
      go_wp2_with (at_builtin; refine wpList_append_lies _ rfl _ _ 31 rfl (w.heap.size + 1) 9 i0 _ 1 16 Tryd.underlying31 hi hz0' hz1 hz2 rfl (by decide) _ _ _ rfl HO0.out ⟨w1.heap.size, 0, none⟩ 1 1 [.string nm] rfl rfl (news_one w1 nm) one_text (by decide) (by unfold maxLen; omega) (by omega) (by have := HSz1.out; simp; omega) _ rfl ?_)
      intro g cap3 w2 hown2 hgrow hat hlt3
      have HB2 : Hid (Below (w.heap.size + 1) W0 w2) := (HB1.out.alloc HSz1.out _).grown hgrow (by have := HSz1.out; simp; omega) (fun k hk => by simp [Value.ownBlock] at hk)
      have HM2 : Hid (Mine w2 (w.heap.size + 1) (.slice (some ⟨g, 0, none⟩) 1 cap3) H) := by
        rw [Hid, HHe.out]
        exact ⟨by simpa [textCells] using hown2, fun h => by simp at h⟩
      have hbx2 : w2.cell? ⟨w.heap.size, 5, none⟩ = some (.slice a n cap) := (HBox.out w2 HB2.out).2.2.2.2.2
      clear hown2 hgrow hat hlt3 HO0 y0 y1 y2 y3 y4 y5
      go_wp2_with fail
      go_loopw [3, 4, 5, 6] (fun s d v i wr => ∃ (k q : Nat) (ao : Option Addr) (cp : Nat), k ≤ n ∧ q ≤ 1048576 ∧ i = .int .i64 k ∧ s = .int .i64 (1 + sizes (l.take k) : Nat) ∧ d = .int .i64 (deepest (l.take k) : Nat) ∧ v = .slice ao q cp ∧ Hid (q = (H ++ callsAll (l.take k)).length) ∧ Hid (Mine wr (w.heap.size + 1) v (H ++ callsAll (l.take k))) ∧ wr.cell? ⟨w.heap.size, 5, none⟩ = some (.slice a n cap) ∧ Hid (Below (w.heap.size + 1) W0 wr)) (fun _ _ _ i _ => n - (intOf i).toNat)
      case atStart => exact ⟨0, 1, some ⟨g, 0, none⟩, cap3, by omega, by omega, rfl, by simp [sizes], by simp [deepest], rfl, by rw [Hid, HHe.out]; simp [callsAll], by simp only [Hid, List.take_zero, callsAll, List.append_nil]; exact HM2.out, hbx2, HB2⟩
      case round =>
        obtain ⟨k, q, ao, cp, hk, hq, rfl, rfl, rfl, rfl, HQ, HMi, hbox, HB⟩ := hrel
        have HBw : Hid (Below w.heap.size w wr) := HB0.out.trans (HB.out.mono (by omega))
        have HSz : Hid (w.heap.size + 1 ≤ wr.heap.size) := by have h1 := HB.out.size; have h2 := HS0.out; rw [Hid]; omega
        by_cases hlt : k < n
        · have hkl : k < l.length := by rw [← HN.out]; exact hlt
          obtain ⟨b, o, hla, hlie⟩ := HLies.out
          obtain rfl := hla (by intro h; rw [h] at hkl; simp at hkl)
          obtain ⟨hc, hli⟩ := lieAt_get l o k hlie hkl
          have hblk : b < w.heap.size := by
            have h0 := hc 0 (by omega)
            cases hx : l[k]
            rw [hx] at h0
            exact World.block_lt_of_cell? w ⟨b, _, none⟩ h0
          have hgk := goods_get HGs.out hkl
          have hbk : l[k].bulk ≤ 1048576 := by have := bulk_arg hkl; have := HBk.out; omega
          have hs1 := sizes_at l k hkl
          have hs2 := sizes_take l (k + 1)
          have hds := deepest_at l k hkl
          have hdl := depth_le l[k]
          have hdl2 := deepest_le (l.take k)
          have hst := sizes_take l k
          have HSx : Hid (sizes (l.take (k + 1)) = sizes (l.take k) + l[k].size) := hs1
          have HDx : Hid (deepest (l.take (k + 1)) = max (deepest (l.take k)) l[k].depth) := hds
          have HNx : Hid (H ++ callsAll (l.take (k + 1)) = (H ++ callsAll (l.take k)) ++ l[k].calls) := by rw [Hid, callsAll_at l k hkl, List.append_assoc]
          have hlq : q + l[k].calls.length ≤ 1048576 := by
            have h1 := congrArg List.length HNx.out
            rw [List.length_append, List.length_append, ← HQ.out] at h1
            have h2 := callsAll_size (l.take (k + 1))
            have := HG.out
            have := HH1.out
            omega
          have hbs : sizes (l.take k) + l[k].size ≤ 1048575 := by have := HG.out; omega
          have hbd : deepest (l.take k) ≤ 1048576 ∧ l[k].depth ≤ 1048576 := by have := HG.out; constructor <;> omega
          have C1 := size_prog l[k] hbk hgk wr (lies_below HBw.out _ hli)
          have C2 := fun W (h : Below w.heap.size w W) => depth_prog l[k] hbk hgk W (lies_below h _ hli)
          have C3 := fun W (h : Below w.heap.size w W) => calls_prog l[k] hbk hgk W (lies_below h _ hli)
          have HC : Hid (∀ W, Below w.heap.size w W → ∀ j, j < 6 → W.cell? ⟨b, o + k * 6 + j, none⟩ = l[k].cells[j]?) := fun W h j hj => (h.cell (p := ⟨b, o + k * 6 + j, none⟩) hblk).trans (hc j hj)
          clear hc hli hgk hbk hs1 hs2 hds hdl hdl2 hst hla hlie
          generalize l[k] = y at *
          generalize y.size = z1 at *
          generalize y.depth = z2 at *
          generalize y.calls = z at *
          generalize callsAll (l.take k) = acc at *
          generalize sizes (l.take k) = S1 at *
          generalize deepest (l.take k) = D1 at *
          obtain ⟨kd', pl', nm', it', dn', a', cap', l'⟩ := y
          have c0 : wr.cell? ⟨b, o + k * 6, none⟩ = some (.int .u8 kd') := HC.out wr HBw.out 0 (by omega)
          have c1 : wr.cell? ⟨b, o + k * 6 + 1, none⟩ = some (.int .i64 pl') := HC.out wr HBw.out 1 (by omega)
          have c2 : wr.cell? ⟨b, o + k * 6 + 2, none⟩ = some (.string nm') := HC.out wr HBw.out 2 (by omega)
          have c3 : wr.cell? ⟨b, o + k * 6 + 3, none⟩ = some (.int .i64 it') := HC.out wr HBw.out 3 (by omega)
          have c4 : wr.cell? ⟨b, o + k * 6 + 4, none⟩ = some (.int .i64 dn') := HC.out wr HBw.out 4 (by omega)
          have c5 : wr.cell? ⟨b, o + k * 6 + 5, none⟩ = some (.slice a' l'.length cap') := HC.out wr HBw.out 5 (by omega)
          simp only [Ex.val, Ex.cells, List.toArray] at C1 C2 C3
          have HC2 : Hid _ := C2
          have HC3 : Hid _ := C3
          clear C2 C3
          go_wp2_with fail
          refine C1.mono ?_
          rintro x w2 ⟨rfl, hb2⟩
          have HBw2 : Hid (Below w.heap.size w w2) := HBw.out.trans (hb2.mono HBw.out.size)
          have HB2 : Hid (Below (w.heap.size + 1) W0 w2) := HB.out.trans (hb2.mono HSz.out)
          have hbox2 : w2.cell? ⟨w.heap.size, 5, none⟩ = some (.slice (some ⟨b, o, none⟩) n cap) := (hb2.cell (p := ⟨w.heap.size, 5, none⟩) HSz.out).trans hbox
          have HMi2 : Hid (Mine w2 (w.heap.size + 1) (.slice ao q cp) (H ++ acc)) := HMi.out.below hb2
          have HSz2 : Hid (w.heap.size + 1 ≤ w2.heap.size) := Nat.le_trans HSz.out hb2.size
          clear C1 hb2 c0 c1 c2 c3 c4 c5 hbox HMi HB HBw
          have c0 : w2.cell? ⟨b, o + k * 6, none⟩ = some (.int .u8 kd') := HC.out w2 HBw2.out 0 (by omega)
          have c1 : w2.cell? ⟨b, o + k * 6 + 1, none⟩ = some (.int .i64 pl') := HC.out w2 HBw2.out 1 (by omega)
          have c2 : w2.cell? ⟨b, o + k * 6 + 2, none⟩ = some (.string nm') := HC.out w2 HBw2.out 2 (by omega)
          have c3 : w2.cell? ⟨b, o + k * 6 + 3, none⟩ = some (.int .i64 it') := HC.out w2 HBw2.out 3 (by omega)
          have c4 : w2.cell? ⟨b, o + k * 6 + 4, none⟩ = some (.int .i64 dn') := HC.out w2 HBw2.out 4 (by omega)
          have c5 : w2.cell? ⟨b, o + k * 6 + 5, none⟩ = some (.slice a' l'.length cap') := HC.out w2 HBw2.out 5 (by omega)
          go_wp2_with fail
          refine (HC2.out w2 HBw2.out).mono ?_
          rintro x w3 ⟨rfl, hb3⟩
          have HBw3 : Hid (Below w.heap.size w w3) := HBw2.out.trans (hb3.mono HBw2.out.size)
          have HB3 : Hid (Below (w.heap.size + 1) W0 w3) := HB2.out.trans (hb3.mono HSz2.out)
          have hbox3 : w3.cell? ⟨w.heap.size, 5, none⟩ = some (.slice (some ⟨b, o, none⟩) n cap) := (hb3.cell (p := ⟨w.heap.size, 5, none⟩) HSz2.out).trans hbox2
          have HMi3 : Hid (Mine w3 (w.heap.size + 1) (.slice ao q cp) (H ++ acc)) := HMi2.out.below hb3
          have HSz3 : Hid (w.heap.size + 1 ≤ w3.heap.size) := Nat.le_trans HSz2.out hb3.size
          clear hb3 c0 c1 c2 c3 c4 c5 hbox2 HMi2 HB2 HBw2
          have c0 : w3.cell? ⟨b, o + k * 6, none⟩ = some (.int .u8 kd') := HC.out w3 HBw3.out 0 (by omega)
          have c1 : w3.cell? ⟨b, o + k * 6 + 1, none⟩ = some (.int .i64 pl') := HC.out w3 HBw3.out 1 (by omega)
          have c2 : w3.cell? ⟨b, o + k * 6 + 2, none⟩ = some (.string nm') := HC.out w3 HBw3.out 2 (by omega)
          have c3 : w3.cell? ⟨b, o + k * 6 + 3, none⟩ = some (.int .i64 it') := HC.out w3 HBw3.out 3 (by omega)
          have c4 : w3.cell? ⟨b, o + k * 6 + 4, none⟩ = some (.int .i64 dn') := HC.out w3 HBw3.out 4 (by omega)
          have c5 : w3.cell? ⟨b, o + k * 6 + 5, none⟩ = some (.slice a' l'.length cap') := HC.out w3 HBw3.out 5 (by omega)
          obtain ⟨D2, hD2⟩ : ∃ D2, D2 = max D1 z2 := ⟨_, rfl⟩
          have HD2 : Hid (D2 = max D1 z2) := hD2
          clear hD2
          go_wp2_with fail
          all_goals refine (HC3.out w3 HBw3.out).mono ?_
          all_goals rintro x w4 ⟨v2, rfl, hmi4, hb4⟩
          all_goals have HMi4 : Hid (Mine w4 (w.heap.size + 1) (.slice ao q cp) (H ++ acc)) := HMi3.out.below hb4
          all_goals have HV4 : Hid (Mine w4 w3.heap.size v2 z) := hmi4
          all_goals have hbox4 : w4.cell? ⟨w.heap.size, 5, none⟩ = some (.slice (some ⟨b, o, none⟩) n cap) := (hb4.cell (p := ⟨w.heap.size, 5, none⟩) HSz3.out).trans hbox3
          all_goals have HB4 : Hid (Below (w.heap.size + 1) W0 w4) := HB3.out.trans (hb4.mono HSz3.out)
          all_goals have HSz4 : Hid (w.heap.size + 1 ≤ w4.heap.size) := Nat.le_trans HSz3.out hb4.size
          all_goals clear hb4 c0 c1 c2 c3 c4 c5 hbox3 HMi3 HB3 HBw3 hmi4
          all_goals
            (rcases Nat.eq_zero_or_pos z.length with hz0 | hz0
             · have hze : z = [] := List.eq_nil_of_length_eq_zero hz0
               obtain rfl := HV4.out.nil hze
               have HZ : Hid (z = []) := hze
               clear hze hz0
               have hown := HMi4.out.own
               rw [← HQ.out] at hown
               have HO : Hid (w4.ownsRow (w.heap.size + 1) 9 1 (.slice ao q cp) q (textCells (H ++ acc))) := hown
               clear hown
               go_wp2_with (at_builtin; refine wpList_append_own_none rfl _ _ 31 rfl (w.heap.size + 1) 9 i0 1 Tryd.underlying31 hi _ _ _ rfl HO.out rfl ?_)
               go_wp2_with fail
               go_roundw
               case rel => exact ⟨k + 1, q, ao, cp, by omega, by omega, by go_num, by rw [HSx.out]; exact congrArg (Value.int .i64) (by omega), by rw [HDx.out]; exact congrArg (Value.int .i64) (by omega), rfl, by rw [Hid, HNx.out, HZ.out, List.append_nil]; exact HQ.out, by rw [Hid, HNx.out, HZ.out, List.append_nil]; exact HMi4.out, hbox4, HB4⟩
               case measure => simp [intOf]; omega
             · obtain ⟨g2, cap2, rfl, _, hg2⟩ := HV4.out.own.form hz0
               have hown := HMi4.out.own
               rw [← HQ.out] at hown
               have HO : Hid (w4.ownsRow (w.heap.size + 1) 9 1 (.slice ao q cp) q (textCells (H ++ acc))) := hown
               clear hown
               have hnews : ∀ j u, (textCells z)[j]? = some u → w4.cell? ((⟨g2, 0, none⟩ : Addr).add j) = some u := fun j u hu => by
                 rw [addr_add, Nat.zero_add]
                 have hj : j < z.length := by have := (List.getElem?_eq_some_iff.1 hu).1; rwa [textCells_len] at this
                 rw [HV4.out.own.cellAt j (by omega)]
                 exact hu
               have HNews : Hid _ := hnews
               clear hnews
               go_wp2_with (at_builtin; refine wpList_append_lies _ rfl _ _ 31 rfl (w.heap.size + 1) 9 i0 _ 1 16 Tryd.underlying31 hi hz0' hz1 hz2 rfl (by decide) _ _ _ rfl HO.out ⟨g2, 0, none⟩ z.length cap2 (textCells z) rfl (by rw [textCells_len]; omega) HNews.out (text_one z) hz0 (by unfold maxLen; omega) (by omega) HSz4.out _ rfl ?_)
               intro g cap3 w5 hown3 hgrow hat hlt3
               have R3 := grown_box HB4.out HO.out hgrow HSz4.out
               have hbox5 : w5.cell? ⟨w.heap.size, 5, none⟩ = some (.slice (some ⟨b, o, none⟩) n cap) := hgrow.cell hbox4 (fun e => by have := (HO.out.lt _ e.symm).1; simp only at this; omega)
               have HR3 : Hid (Below (w.heap.size + 1) W0 w5) := R3
               have HO3 : Hid (Mine w5 (w.heap.size + 1) (.slice (some ⟨g, 0, none⟩) (q + z.length) cap3) ((H ++ acc) ++ z)) := by
                 refine ⟨?_, fun h => ?_⟩
                 · have e1 : ((H ++ acc) ++ z).length = q + z.length := by rw [List.length_append, ← HQ.out]
                   rw [e1, textCells_append]
                   exact hown3
                 · have := congrArg List.length h
                   rw [List.length_append] at this
                   simp only [List.length_nil] at this
                   omega
               clear R3 hown3 hgrow hat hlt3 HMi4 HO HNews HV4 HB4 hbox4
               go_wp2_with fail
               go_roundw
               case rel => exact ⟨k + 1, q + z.length, _, _, by omega, by omega, by go_num, by rw [HSx.out]; exact congrArg (Value.int .i64) (by omega), by rw [HDx.out]; exact congrArg (Value.int .i64) (by omega), rfl, by rw [Hid, HNx.out, List.length_append, ← HQ.out], by rw [Hid, HNx.out]; exact HO3.out, hbox5, HR3⟩
               case measure => simp [intOf]; omega)
        · obtain rfl : k = n := by omega
          have HTk : Hid (l.take k = l) := by rw [Hid, HN.out, List.take_length]
          rw [HTk.out] at HQ HMi ⊢
          have hsl : 1 + sizes l ≤ 1048576 := HG.out
          have hdl := deepest_le l
          obtain ⟨y0, y1, y2, y3, y4, y5⟩ := HBox.out wr HB.out
          have C1 := HSize.out wr HB.out
          clear hbox
          go_wp2_with fail
          refine C1.mono ?_
          rintro x w2 ⟨rfl, hb2⟩
          have HB2 : Hid (Below (w.heap.size + 1) W0 w2) := HB.out.trans (hb2.mono HSz.out)
          have HSz2 : Hid (w.heap.size + 1 ≤ w2.heap.size) := Nat.le_trans HSz.out hb2.size
          have HMi2 : Hid _ := HMi.out.below hb2
          clear y0 y1 y2 y3 y4 y5 C1 hb2
          obtain ⟨y0, y1, y2, y3, y4, y5⟩ := HBox.out w2 HB2.out
          have C2 := HDepth.out w2 HB2.out
          go_wp2_with fail
          refine C2.mono ?_
          rintro x w3 ⟨rfl, hb3⟩
          have HB3 : Hid (Below (w.heap.size + 1) W0 w3) := HB2.out.trans (hb3.mono HSz2.out)
          have HSz3 : Hid (w.heap.size + 1 ≤ w3.heap.size) := Nat.le_trans HSz2.out hb3.size
          have HMi3 : Hid _ := HMi2.out.below hb3
          clear y0 y1 y2 y3 y4 y5 C2 hb3 HMi2
          obtain ⟨y0, y1, y2, y3, y4, y5⟩ := HBox.out w3 HB3.out
          have C3 := HCalls.out w3 HB3.out
          go_wp2_with fail
          refine C3.mono ?_
          rintro x w4 ⟨v4, rfl, hm4, hb4⟩
          have HB4 : Hid (Below (w.heap.size + 1) W0 w4) := HB3.out.trans (hb4.mono HSz3.out)
          have HSz4 : Hid (w.heap.size + 1 ≤ w4.heap.size) := Nat.le_trans HSz3.out hb4.size
          have CT := texts_calls (H ++ callsAll l) w4 w3.heap.size (w.heap.size + 1) v4 (.slice ao q cp) (by rw [← HQ.out]; exact hq) hm4.own ((HMi3.out.below hb4).own)
          clear y0 y1 y2 y3 y4 y5 C3 hb4 hm4 HMi3
          go_wp2_with fail
          refine CT.mono ?_
          rintro x w5 ⟨rfl, hb5⟩
          have hb5' : Below w4.heap.size w4 w5 := by first | exact hb5 | exact Gr.below hb5
          have HB5 : Hid (Below (w.heap.size + 1) W0 w5) := HB4.out.trans (hb5'.mono HSz4.out)
          have C6 := HAlive.out w5 HB5.out
          clear CT hb5 hb5'
          go_wp2_with fail
          refine C6.mono ?_
          rintro x w6 ⟨rfl, hb6⟩
          have HB6 : Hid (Below w.heap.size w w6) := HB0.out.trans ((HB5.out.mono (by omega)).trans (hb6.mono (by have := HB5.out.size; have := HS0.out; omega)))
          clear C6 hb6
          go_wp2_with fail
          all_goals go_ret
          all_goals exact ⟨rfl, HB6.out⟩
    · rw [if_neg h4] at hH
      have HHe : Hid (H = []) := hH
      have hk4 : (kd == 4) = false := beq_false_of_ne h4
      clear hH h4
      go_enter Tryd.func8, Tryd.ntmps8
      go_wp2_with fail
      rw [← HW0.out]
      refine CH.mono ?_
      rintro x w1 ⟨rfl, hb1⟩
      have HB1 : Hid (Below (w.heap.size + 1) W0 w1) := by have := HS0.out; rw [this] at hb1; exact hb1
      obtain ⟨y0, y1, y2, y3, y4, y5⟩ := HBox.out w1 HB1.out
      clear CH hb1
      go_wp2_with fail
      go_loopw [3, 4, 5, 6] (fun s d v i wr => ∃ (k q : Nat) (ao : Option Addr) (cp : Nat), k ≤ n ∧ q ≤ 1048576 ∧ i = .int .i64 k ∧ s = .int .i64 (1 + sizes (l.take k) : Nat) ∧ d = .int .i64 (deepest (l.take k) : Nat) ∧ v = .slice ao q cp ∧ Hid (q = (H ++ callsAll (l.take k)).length) ∧ Hid (Mine wr (w.heap.size + 1) v (H ++ callsAll (l.take k))) ∧ wr.cell? ⟨w.heap.size, 5, none⟩ = some (.slice a n cap) ∧ Hid (Below (w.heap.size + 1) W0 wr)) (fun _ _ _ i _ => n - (intOf i).toNat)
      case atStart => exact ⟨0, 0, none, 0, by omega, by omega, rfl, by simp [sizes], by simp [deepest], rfl, by rw [Hid, HHe.out]; simp [callsAll], by rw [Hid, HHe.out]; exact ⟨World.ownsRow_nil _ _ _ _, fun _ => rfl⟩, y5, HB1⟩
      case round =>
        obtain ⟨k, q, ao, cp, hk, hq, rfl, rfl, rfl, rfl, HQ, HMi, hbox, HB⟩ := hrel
        have HBw : Hid (Below w.heap.size w wr) := HB0.out.trans (HB.out.mono (by omega))
        have HSz : Hid (w.heap.size + 1 ≤ wr.heap.size) := by have h1 := HB.out.size; have h2 := HS0.out; rw [Hid]; omega
        by_cases hlt : k < n
        · have hkl : k < l.length := by rw [← HN.out]; exact hlt
          obtain ⟨b, o, hla, hlie⟩ := HLies.out
          obtain rfl := hla (by intro h; rw [h] at hkl; simp at hkl)
          obtain ⟨hc, hli⟩ := lieAt_get l o k hlie hkl
          have hblk : b < w.heap.size := by
            have h0 := hc 0 (by omega)
            cases hx : l[k]
            rw [hx] at h0
            exact World.block_lt_of_cell? w ⟨b, _, none⟩ h0
          have hgk := goods_get HGs.out hkl
          have hbk : l[k].bulk ≤ 1048576 := by have := bulk_arg hkl; have := HBk.out; omega
          have hs1 := sizes_at l k hkl
          have hs2 := sizes_take l (k + 1)
          have hds := deepest_at l k hkl
          have hdl := depth_le l[k]
          have hdl2 := deepest_le (l.take k)
          have hst := sizes_take l k
          have HSx : Hid (sizes (l.take (k + 1)) = sizes (l.take k) + l[k].size) := hs1
          have HDx : Hid (deepest (l.take (k + 1)) = max (deepest (l.take k)) l[k].depth) := hds
          have HNx : Hid (H ++ callsAll (l.take (k + 1)) = (H ++ callsAll (l.take k)) ++ l[k].calls) := by rw [Hid, callsAll_at l k hkl, List.append_assoc]
          have hlq : q + l[k].calls.length ≤ 1048576 := by
            have h1 := congrArg List.length HNx.out
            rw [List.length_append, List.length_append, ← HQ.out] at h1
            have h2 := callsAll_size (l.take (k + 1))
            have := HG.out
            have := HH1.out
            omega
          have hbs : sizes (l.take k) + l[k].size ≤ 1048575 := by have := HG.out; omega
          have hbd : deepest (l.take k) ≤ 1048576 ∧ l[k].depth ≤ 1048576 := by have := HG.out; constructor <;> omega
          have C1 := size_prog l[k] hbk hgk wr (lies_below HBw.out _ hli)
          have C2 := fun W (h : Below w.heap.size w W) => depth_prog l[k] hbk hgk W (lies_below h _ hli)
          have C3 := fun W (h : Below w.heap.size w W) => calls_prog l[k] hbk hgk W (lies_below h _ hli)
          have HC : Hid (∀ W, Below w.heap.size w W → ∀ j, j < 6 → W.cell? ⟨b, o + k * 6 + j, none⟩ = l[k].cells[j]?) := fun W h j hj => (h.cell (p := ⟨b, o + k * 6 + j, none⟩) hblk).trans (hc j hj)
          clear hc hli hgk hbk hs1 hs2 hds hdl hdl2 hst hla hlie
          generalize l[k] = y at *
          generalize y.size = z1 at *
          generalize y.depth = z2 at *
          generalize y.calls = z at *
          generalize callsAll (l.take k) = acc at *
          generalize sizes (l.take k) = S1 at *
          generalize deepest (l.take k) = D1 at *
          obtain ⟨kd', pl', nm', it', dn', a', cap', l'⟩ := y
          have c0 : wr.cell? ⟨b, o + k * 6, none⟩ = some (.int .u8 kd') := HC.out wr HBw.out 0 (by omega)
          have c1 : wr.cell? ⟨b, o + k * 6 + 1, none⟩ = some (.int .i64 pl') := HC.out wr HBw.out 1 (by omega)
          have c2 : wr.cell? ⟨b, o + k * 6 + 2, none⟩ = some (.string nm') := HC.out wr HBw.out 2 (by omega)
          have c3 : wr.cell? ⟨b, o + k * 6 + 3, none⟩ = some (.int .i64 it') := HC.out wr HBw.out 3 (by omega)
          have c4 : wr.cell? ⟨b, o + k * 6 + 4, none⟩ = some (.int .i64 dn') := HC.out wr HBw.out 4 (by omega)
          have c5 : wr.cell? ⟨b, o + k * 6 + 5, none⟩ = some (.slice a' l'.length cap') := HC.out wr HBw.out 5 (by omega)
          simp only [Ex.val, Ex.cells, List.toArray] at C1 C2 C3
          have HC2 : Hid _ := C2
          have HC3 : Hid _ := C3
          clear C2 C3
          go_wp2_with fail
          refine C1.mono ?_
          rintro x w2 ⟨rfl, hb2⟩
          have HBw2 : Hid (Below w.heap.size w w2) := HBw.out.trans (hb2.mono HBw.out.size)
          have HB2 : Hid (Below (w.heap.size + 1) W0 w2) := HB.out.trans (hb2.mono HSz.out)
          have hbox2 : w2.cell? ⟨w.heap.size, 5, none⟩ = some (.slice (some ⟨b, o, none⟩) n cap) := (hb2.cell (p := ⟨w.heap.size, 5, none⟩) HSz.out).trans hbox
          have HMi2 : Hid (Mine w2 (w.heap.size + 1) (.slice ao q cp) (H ++ acc)) := HMi.out.below hb2
          have HSz2 : Hid (w.heap.size + 1 ≤ w2.heap.size) := Nat.le_trans HSz.out hb2.size
          clear C1 hb2 c0 c1 c2 c3 c4 c5 hbox HMi HB HBw
          have c0 : w2.cell? ⟨b, o + k * 6, none⟩ = some (.int .u8 kd') := HC.out w2 HBw2.out 0 (by omega)
          have c1 : w2.cell? ⟨b, o + k * 6 + 1, none⟩ = some (.int .i64 pl') := HC.out w2 HBw2.out 1 (by omega)
          have c2 : w2.cell? ⟨b, o + k * 6 + 2, none⟩ = some (.string nm') := HC.out w2 HBw2.out 2 (by omega)
          have c3 : w2.cell? ⟨b, o + k * 6 + 3, none⟩ = some (.int .i64 it') := HC.out w2 HBw2.out 3 (by omega)
          have c4 : w2.cell? ⟨b, o + k * 6 + 4, none⟩ = some (.int .i64 dn') := HC.out w2 HBw2.out 4 (by omega)
          have c5 : w2.cell? ⟨b, o + k * 6 + 5, none⟩ = some (.slice a' l'.length cap') := HC.out w2 HBw2.out 5 (by omega)
          go_wp2_with fail
          refine (HC2.out w2 HBw2.out).mono ?_
          rintro x w3 ⟨rfl, hb3⟩
          have HBw3 : Hid (Below w.heap.size w w3) := HBw2.out.trans (hb3.mono HBw2.out.size)
          have HB3 : Hid (Below (w.heap.size + 1) W0 w3) := HB2.out.trans (hb3.mono HSz2.out)
          have hbox3 : w3.cell? ⟨w.heap.size, 5, none⟩ = some (.slice (some ⟨b, o, none⟩) n cap) := (hb3.cell (p := ⟨w.heap.size, 5, none⟩) HSz2.out).trans hbox2
          have HMi3 : Hid (Mine w3 (w.heap.size + 1) (.slice ao q cp) (H ++ acc)) := HMi2.out.below hb3
          have HSz3 : Hid (w.heap.size + 1 ≤ w3.heap.size) := Nat.le_trans HSz2.out hb3.size
          clear hb3 c0 c1 c2 c3 c4 c5 hbox2 HMi2 HB2 HBw2
          have c0 : w3.cell? ⟨b, o + k * 6, none⟩ = some (.int .u8 kd') := HC.out w3 HBw3.out 0 (by omega)
          have c1 : w3.cell? ⟨b, o + k * 6 + 1, none⟩ = some (.int .i64 pl') := HC.out w3 HBw3.out 1 (by omega)
          have c2 : w3.cell? ⟨b, o + k * 6 + 2, none⟩ = some (.string nm') := HC.out w3 HBw3.out 2 (by omega)
          have c3 : w3.cell? ⟨b, o + k * 6 + 3, none⟩ = some (.int .i64 it') := HC.out w3 HBw3.out 3 (by omega)
          have c4 : w3.cell? ⟨b, o + k * 6 + 4, none⟩ = some (.int .i64 dn') := HC.out w3 HBw3.out 4 (by omega)
          have c5 : w3.cell? ⟨b, o + k * 6 + 5, none⟩ = some (.slice a' l'.length cap') := HC.out w3 HBw3.out 5 (by omega)
          obtain ⟨D2, hD2⟩ : ∃ D2, D2 = max D1 z2 := ⟨_, rfl⟩
          have HD2 : Hid (D2 = max D1 z2) := hD2
          clear hD2
          go_wp2_with fail
          all_goals refine (HC3.out w3 HBw3.out).mono ?_
          all_goals rintro x w4 ⟨v2, rfl, hmi4, hb4⟩
          all_goals have HMi4 : Hid (Mine w4 (w.heap.size + 1) (.slice ao q cp) (H ++ acc)) := HMi3.out.below hb4
          all_goals have HV4 : Hid (Mine w4 w3.heap.size v2 z) := hmi4
          all_goals have hbox4 : w4.cell? ⟨w.heap.size, 5, none⟩ = some (.slice (some ⟨b, o, none⟩) n cap) := (hb4.cell (p := ⟨w.heap.size, 5, none⟩) HSz3.out).trans hbox3
          all_goals have HB4 : Hid (Below (w.heap.size + 1) W0 w4) := HB3.out.trans (hb4.mono HSz3.out)
          all_goals have HSz4 : Hid (w.heap.size + 1 ≤ w4.heap.size) := Nat.le_trans HSz3.out hb4.size
          all_goals clear hb4 c0 c1 c2 c3 c4 c5 hbox3 HMi3 HB3 HBw3 hmi4
          all_goals
            (rcases Nat.eq_zero_or_pos z.length with hz0 | hz0
             · have hze : z = [] := List.eq_nil_of_length_eq_zero hz0
               obtain rfl := HV4.out.nil hze
               have HZ : Hid (z = []) := hze
               clear hze hz0
               have hown := HMi4.out.own
               rw [← HQ.out] at hown
               have HO : Hid (w4.ownsRow (w.heap.size + 1) 9 1 (.slice ao q cp) q (textCells (H ++ acc))) := hown
               clear hown
               go_wp2_with (at_builtin; refine wpList_append_own_none rfl _ _ 31 rfl (w.heap.size + 1) 9 i0 1 Tryd.underlying31 hi _ _ _ rfl HO.out rfl ?_)
               go_wp2_with fail
               go_roundw
               case rel => exact ⟨k + 1, q, ao, cp, by omega, by omega, by go_num, by rw [HSx.out]; exact congrArg (Value.int .i64) (by omega), by rw [HDx.out]; exact congrArg (Value.int .i64) (by omega), rfl, by rw [Hid, HNx.out, HZ.out, List.append_nil]; exact HQ.out, by rw [Hid, HNx.out, HZ.out, List.append_nil]; exact HMi4.out, hbox4, HB4⟩
               case measure => simp [intOf]; omega
             · obtain ⟨g2, cap2, rfl, _, hg2⟩ := HV4.out.own.form hz0
               have hown := HMi4.out.own
               rw [← HQ.out] at hown
               have HO : Hid (w4.ownsRow (w.heap.size + 1) 9 1 (.slice ao q cp) q (textCells (H ++ acc))) := hown
               clear hown
               have hnews : ∀ j u, (textCells z)[j]? = some u → w4.cell? ((⟨g2, 0, none⟩ : Addr).add j) = some u := fun j u hu => by
                 rw [addr_add, Nat.zero_add]
                 have hj : j < z.length := by have := (List.getElem?_eq_some_iff.1 hu).1; rwa [textCells_len] at this
                 rw [HV4.out.own.cellAt j (by omega)]
                 exact hu
               have HNews : Hid _ := hnews
               clear hnews
               go_wp2_with (at_builtin; refine wpList_append_lies _ rfl _ _ 31 rfl (w.heap.size + 1) 9 i0 _ 1 16 Tryd.underlying31 hi hz0' hz1 hz2 rfl (by decide) _ _ _ rfl HO.out ⟨g2, 0, none⟩ z.length cap2 (textCells z) rfl (by rw [textCells_len]; omega) HNews.out (text_one z) hz0 (by unfold maxLen; omega) (by omega) HSz4.out _ rfl ?_)
               intro g cap3 w5 hown3 hgrow hat hlt3
               have R3 := grown_box HB4.out HO.out hgrow HSz4.out
               have hbox5 : w5.cell? ⟨w.heap.size, 5, none⟩ = some (.slice (some ⟨b, o, none⟩) n cap) := hgrow.cell hbox4 (fun e => by have := (HO.out.lt _ e.symm).1; simp only at this; omega)
               have HR3 : Hid (Below (w.heap.size + 1) W0 w5) := R3
               have HO3 : Hid (Mine w5 (w.heap.size + 1) (.slice (some ⟨g, 0, none⟩) (q + z.length) cap3) ((H ++ acc) ++ z)) := by
                 refine ⟨?_, fun h => ?_⟩
                 · have e1 : ((H ++ acc) ++ z).length = q + z.length := by rw [List.length_append, ← HQ.out]
                   rw [e1, textCells_append]
                   exact hown3
                 · have := congrArg List.length h
                   rw [List.length_append] at this
                   simp only [List.length_nil] at this
                   omega
               clear R3 hown3 hgrow hat hlt3 HMi4 HO HNews HV4 HB4 hbox4
               go_wp2_with fail
               go_roundw
               case rel => exact ⟨k + 1, q + z.length, _, _, by omega, by omega, by go_num, by rw [HSx.out]; exact congrArg (Value.int .i64) (by omega), by rw [HDx.out]; exact congrArg (Value.int .i64) (by omega), rfl, by rw [Hid, HNx.out, List.length_append, ← HQ.out], by rw [Hid, HNx.out]; exact HO3.out, hbox5, HR3⟩
               case measure => simp [intOf]; omega)
        · obtain rfl : k = n := by omega
          have HTk : Hid (l.take k = l) := by rw [Hid, HN.out, List.take_length]
          rw [HTk.out] at HQ HMi ⊢
          have hsl : 1 + sizes l ≤ 1048576 := HG.out
          have hdl := deepest_le l
          obtain ⟨y0, y1, y2, y3, y4, y5⟩ := HBox.out wr HB.out
          have C1 := HSize.out wr HB.out
          clear hbox
          go_wp2_with fail
          refine C1.mono ?_
          rintro x w2 ⟨rfl, hb2⟩
          have HB2 : Hid (Below (w.heap.size + 1) W0 w2) := HB.out.trans (hb2.mono HSz.out)
          have HSz2 : Hid (w.heap.size + 1 ≤ w2.heap.size) := Nat.le_trans HSz.out hb2.size
          have HMi2 : Hid _ := HMi.out.below hb2
          clear y0 y1 y2 y3 y4 y5 C1 hb2
          obtain ⟨y0, y1, y2, y3, y4, y5⟩ := HBox.out w2 HB2.out
          have C2 := HDepth.out w2 HB2.out
          go_wp2_with fail
          refine C2.mono ?_
          rintro x w3 ⟨rfl, hb3⟩
          have HB3 : Hid (Below (w.heap.size + 1) W0 w3) := HB2.out.trans (hb3.mono HSz2.out)
          have HSz3 : Hid (w.heap.size + 1 ≤ w3.heap.size) := Nat.le_trans HSz2.out hb3.size
          have HMi3 : Hid _ := HMi2.out.below hb3
          clear y0 y1 y2 y3 y4 y5 C2 hb3 HMi2
          obtain ⟨y0, y1, y2, y3, y4, y5⟩ := HBox.out w3 HB3.out
          have C3 := HCalls.out w3 HB3.out
          go_wp2_with fail
          refine C3.mono ?_
          rintro x w4 ⟨v4, rfl, hm4, hb4⟩
          have HB4 : Hid (Below (w.heap.size + 1) W0 w4) := HB3.out.trans (hb4.mono HSz3.out)
          have HSz4 : Hid (w.heap.size + 1 ≤ w4.heap.size) := Nat.le_trans HSz3.out hb4.size
          have CT := texts_calls (H ++ callsAll l) w4 w3.heap.size (w.heap.size + 1) v4 (.slice ao q cp) (by rw [← HQ.out]; exact hq) hm4.own ((HMi3.out.below hb4).own)
          clear y0 y1 y2 y3 y4 y5 C3 hb4 hm4 HMi3
          go_wp2_with fail
          refine CT.mono ?_
          rintro x w5 ⟨rfl, hb5⟩
          have hb5' : Below w4.heap.size w4 w5 := by first | exact hb5 | exact Gr.below hb5
          have HB5 : Hid (Below (w.heap.size + 1) W0 w5) := HB4.out.trans (hb5'.mono HSz4.out)
          have C6 := HAlive.out w5 HB5.out
          clear CT hb5 hb5'
          go_wp2_with fail
          refine C6.mono ?_
          rintro x w6 ⟨rfl, hb6⟩
          have HB6 : Hid (Below w.heap.size w w6) := HB0.out.trans ((HB5.out.mono (by omega)).trans (hb6.mono (by have := HB5.out.size; have := HS0.out; omega)))
          clear C6 hb6
          go_wp2_with fail
          all_goals go_ret
          all_goals exact ⟨rfl, HB6.out⟩
  · clear hH
    go_enter Tryd.func8, Tryd.ntmps8
    go_wp2_with fail
    rw [← HW0.out]
    refine CH.mono ?_
    rintro x w1 ⟨rfl, hb1⟩
    have HB1 : Hid (Below (w.heap.size + 1) W0 w1) := by have := HS0.out; rw [this] at hb1; exact hb1
    have C2 := HAlive.out w1 HB1.out
    clear CH hb1
    go_wp2_with fail
    refine C2.mono ?_
    rintro x w2 ⟨rfl, hb2⟩
    have HB2 : Hid (Below w.heap.size w w2) := HB0.out.trans ((HB1.out.mono (by omega)).trans (hb2.mono (by have := HB1.out.size; have := HS0.out; omega)))
    clear C2 hb2
    go_wp2_with fail
    go_ret
    exact ⟨rfl, HB2.out⟩
end Go.Proofs.YtbgndapaccdjoaaDoor
