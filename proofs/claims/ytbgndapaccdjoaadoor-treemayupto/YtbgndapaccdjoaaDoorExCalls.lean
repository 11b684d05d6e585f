/- The document's answer of layer 4: Calls. -/
import Derived.Test.YtbgndapaccdjoaaDoorExTexts
import Derived.Laws.AppendOwnNone
import Derived.Deep.Onto
namespace Go.Proofs.YtbgndapaccdjoaaDoor
open Go.RowKit
open Ex.size Ex.depth Ex.lies Ex.bulk Ex.good
attribute [local go_sem] later_size later_cell later_frozen later_setCell later_drew later_drewN later_tape drewN_setCell drewN_alloc drewN_later later_later lt_more lt_more1 lt_more2 lt_more3 lt_more4 lk0_0_1 lk1_0_1 lk2_0_1 lk0_0_2 lk1_0_2 lk2_0_2 lk0_1_2 lk0_0_3 lk1_0_3 lk2_0_3 lk0_1_3 lk0_2_3 lk0_0_4 lk1_0_4 lk2_0_4 lk0_1_4 lk0_2_4 lk0_3_4 lk0_0_5 lk1_0_5 lk2_0_5 lk0_1_5 lk0_2_5 lk0_3_5 lk0_4_5 lk0_0_6 lk1_0_6 lk2_0_6 lk0_1_6 lk0_2_6 lk0_3_6 lk0_4_6 lk0_5_6 lk0_0_7 lk1_0_7 lk2_0_7 lk0_1_7 lk0_2_7 lk0_3_7 lk0_4_7 lk0_5_7 lk0_6_7
/-- Whom it calls. -/
def Ex.calls : Ex → List ByteArray
  | .mk kd _ nm _ _ _ _ l => (if kd = 4 then [nm] else []) ++ callsAll l
where callsAll : List Ex → List ByteArray
  | [] => []
  | e :: r => e.calls ++ callsAll r
open Ex.calls
theorem calls_size : ∀ e : Ex, e.calls.length ≤ e.size
  | .mk kd _ nm _ _ _ _ l => by
    have := all l
    simp only [Ex.calls, Ex.size, List.length_append]
    split <;> simp <;> omega
where all : ∀ l : List Ex, (callsAll l).length ≤ sizes l
  | [] => by simp [callsAll, sizes]
  | e :: r => by
    have h1 := calls_size e
    have h2 := all r
    simp only [callsAll, sizes, List.length_append]
    omega
theorem callsAll_size (l : List Ex) : (callsAll l).length ≤ sizes l := calls_size.all l
theorem callsAll_at (l : List Ex) (i : Nat) (h : i < l.length) : callsAll (l.take (i + 1)) = callsAll (l.take i) ++ l[i].calls := by
  induction l generalizing i with
  | nil => simp at h
  | cons e r ih =>
    cases i with
    | zero => simp [callsAll]
    | succ i =>
      have := ih i (by simpa using h)
      simp only [List.take_succ_cons, callsAll, List.getElem_cons_succ]
      rw [this, List.append_assoc]
theorem textCells_append (a b : List ByteArray) : textCells (a ++ b) = textCells a ++ textCells b := by simp [textCells]
theorem textCells_len (a : List ByteArray) : (textCells a).length = a.length := by simp [textCells]
theorem text_one (l : List ByteArray) : ∀ u ∈ textCells l, u.oneCell' = true := by
  intro u hu
  simp only [textCells, List.mem_map] at hu
  obtain ⟨s, _, rfl⟩ := hu
  rfl
theorem Tryd.infoText : (Tryd.prog.info? 9).map (fun i => (i.zero, i.size, i.bytes)) = some (some (.string ⟨#[]⟩), 1, 16) := by kernel_rfl
/-- A row of texts of the call's own: nil where there are none. -/
structure Mine (w : World) (B : Nat) (v : Value) (l : List ByteArray) : Prop where
  own : w.ownsRow B 9 1 v l.length (textCells l)
  nil : l = [] → v = .slice none 0 0
theorem Mine.below {w w' : World} {B : Nat} {v : Value} {l : List ByteArray} (h : Mine w B v l) (hb : Below w.heap.size w w') : Mine w' B v l := by
  refine ⟨⟨h.own.1, ?_⟩, h.nil⟩
  rcases h.own.2 with h | ⟨g, cap, cur, hv, hb0, hg, rest⟩
  · exact .inl h
  · refine .inr ⟨g, cap, cur, hv, hb0, ?_, rest⟩
    rw [hb.block g]
    · exact hg
    · rcases Nat.lt_or_ge g w.heap.size with hlt | hge
      · exact hlt
      · rw [Array.getElem?_eq_none hge] at hg; cases hg
theorem Mine.mono {w : World} {B B' : Nat} {v : Value} {l : List ByteArray} (h : Mine w B v l) (hb : B' ≤ B) : Mine w B' v l := ⟨h.own.mono hb, h.nil⟩
theorem Mine.shape {w : World} {B : Nat} {v : Value} {l : List ByteArray} (h : Mine w B v l) : ∃ ao c, v = .slice ao l.length c := by
  rcases h.own.2 with ⟨rfl, h0⟩ | ⟨g, cap, cur, rfl, _⟩
  · exact ⟨none, 0, by rw [h0]⟩
  · exact ⟨_, _, rfl⟩
/-- What an append leaves of the memory: the box's slice, what is below. -/
theorem grown_texts {w w1 w2 : World} {v : Value} {n : Nat} {xs : List Value} (hb : Below w.heap.size w w1) (ho : w1.ownsRow (w.heap.size + 1) 9 1 v n xs) (hg : w1.grownBy w2 v.ownBlock) (hs : w.heap.size < w1.heap.size) :
    w2.cell? ⟨w.heap.size, 5, none⟩ = w1.cell? ⟨w.heap.size, 5, none⟩ ∧ w.heap.size < w2.heap.size ∧ Below w.heap.size w w2 := by
  have hne : ∀ k, k ≤ w.heap.size → some k ≠ v.ownBlock := fun k hk e => by
    have := ho.lt k e.symm
    omega
  have hsz := hg.size
  have hblock : ∀ k, k ≤ w.heap.size → w2.heap[k]? = w1.heap[k]? := fun k hk => hg.block k (by omega) (hne k hk)
  exact ⟨World.cell?_of_block (hblock w.heap.size (Nat.le_refl _)), by omega, ⟨hg.os.trans hb.os, hg.tape.trans hb.tape, hg.output.trans hb.output, by omega, fun k hk => (hblock k (by omega)).trans (hb.block k hk)⟩⟩
set_option maxRecDepth 100000 in
set_option maxHeartbeats 6400000 in
theorem calls_calls (m : Nat) : ∀ (e : Ex), e.size ≤ m → e.size ≤ 1048576 → ∀ w, e.lies w → Calls Tryd.prog 19 #[e.val] w fun x w' => ∃ v, x = .returned v ∧ Mine w' w.heap.size v e.calls ∧ Below w.heap.size w w' := by
  obtain ⟨i0, hi, hz0', hz1, hz2⟩ := info_parts Tryd.infoText
  induction m with
  | zero => intro e h; have := size_pos e; omega
  | succ m ih =>
    rintro ⟨kd, pl, nm, it, dn, a, cap, l⟩ hm hbig w ⟨b, o, hla, hlie⟩
    obtain ⟨n, hn⟩ : ∃ n, n = l.length := ⟨_, rfl⟩
    have HM : Hid (1 + sizes l ≤ m + 1) := hm
    have HG : Hid (1 + sizes l ≤ 1048576) := hbig
    have hnb : n ≤ 1048576 := by
      have h1 := len_sizes l
      have := HG.out
      omega
    clear hm hbig
    obtain ⟨H, hH⟩ : ∃ H : List ByteArray, H = if kd = 4 then [nm] else [] := ⟨_, rfl⟩
    have HH1 : Hid (H.length ≤ 1) := by rw [Hid, hH]; split <;> simp
    have HCalls : Hid (Ex.calls (.mk kd pl nm it dn a cap l) = H ++ callsAll l) := by rw [Hid, Ex.calls, hH]
    have HN : Hid (n = l.length) := hn
    have HLA : Hid _ := hla
    have HLie : Hid _ := hlie
    have HIH : Hid _ := ih
    rw [HCalls.out]
    simp only [Ex.val, Ex.cells, List.toArray]
    rw [← hn]
    clear hn hla hlie ih
    by_cases h4 : kd = 4
    · subst h4
      rw [if_pos rfl] at hH
      have HHe : Hid (H = [nm]) := hH
      clear hH
      have HO0 : Hid (((w.alloc (.cells #[.int .u8 4, .int .i64 pl, .string nm, .int .i64 it, .int .i64 dn, .slice a n cap] 24)).alloc (.cells #[.string nm] 9)).ownsRow (w.heap.size + 1) 9 1 (.slice none 0 0) 0 []) := World.ownsRow_nil _ _ _ _
      go_enter Tryd.func19, Tryd.ntmps19
      go_wp2_with (at_builtin; refine wpList_append_lies _ rfl _ _ 31 rfl (w.heap.size + 1) 9 i0 _ 1 16 Tryd.underlying31 hi hz0' hz1 hz2 rfl (by decide) _ _ _ rfl HO0.out ⟨w.heap.size + 1, 0, none⟩ 1 1 [.string nm] rfl rfl (fun j u hj => by rw [addr_add, Nat.zero_add, World.cell?_alloc_at _ _ _ _ (by simp)]; simpa using hj) (fun u hu => by simp at hu; subst hu; rfl) (by decide) (by unfold maxLen; omega) (by omega) (by simp) _ rfl ?_)
      intro g cap3 w1 hown1 hgrow hat hlt3
      have hsz1 : w.heap.size < w1.heap.size := by have := hgrow.size; simp at this; omega
      have hbl : ∀ k, k < w.heap.size + 1 → w1.heap[k]? = (w.alloc (.cells #[.int .u8 4, .int .i64 pl, .string nm, .int .i64 it, .int .i64 dn, .slice a n cap] 24)).heap[k]? := fun k hk => by
        rw [hgrow.block k (by simp; omega) (by simp [Value.ownBlock])]
        show ((w.heap.push _).push _)[k]? = (w.heap.push _)[k]?
        rw [Array.getElem?_push_lt (by simp; omega)]
        rw [Array.getElem?_eq_getElem (by simp; omega)]
      have hbox1 : w1.cell? ⟨w.heap.size, 5, none⟩ = some (.slice a n cap) := by
        rw [World.cell?_of_block (hbl w.heap.size (by omega))]
        simp
      have HB1 : Hid (Below w.heap.size w w1) := ⟨hgrow.os, hgrow.tape, hgrow.output, by have := hgrow.size; simp at this; omega, fun k hk => by
        rw [hbl k (by omega)]
        show (w.heap.push _)[k]? = _
        rw [Array.getElem?_push_lt hk]
        simp [hk]⟩
      have HM1 : Hid (Mine w1 (w.heap.size + 1) (.slice (some ⟨g, 0, none⟩) 1 cap3) H) := by
        rw [Hid, HHe.out]
        exact ⟨by simpa [textCells] using hown1, fun h => by simp at h⟩
      clear hown1 hgrow hat hlt3 hbl HO0
      go_wp2_with fail
      go_loopw [3, 4] (fun v i wr => ∃ (k q : Nat) (ao : Option Addr) (cp : Nat), k ≤ n ∧ q ≤ 1048576 ∧ i = .int .i64 k ∧ v = .slice ao q cp ∧ Hid (q = (H ++ callsAll (l.take k)).length) ∧ Hid (Mine wr (w.heap.size + 1) v (H ++ callsAll (l.take k))) ∧ wr.cell? ⟨w.heap.size, 5, none⟩ = some (.slice a n cap) ∧ w.heap.size < wr.heap.size ∧ Hid (Below w.heap.size w wr)) (fun _ i _ => n - (intOf i).toNat)
      case atStart => exact ⟨0, 1, some ⟨g, 0, none⟩, cap3, by omega, by omega, rfl, rfl, by rw [Hid, HHe.out]; simp [callsAll], by simp only [Hid, List.take_zero, callsAll, List.append_nil]; exact HM1.out, hbox1, hsz1, HB1⟩
      case round =>
        obtain ⟨k, q, ao, cp, hk, hq, rfl, rfl, HQ, HMi, hbox, hsz, HB⟩ := hrel
        by_cases hlt : k < n
        · have hkl : k < l.length := by rw [← HN.out]; exact hlt
          obtain rfl := HLA.out (by intro h; rw [h] at hkl; simp at hkl)
          obtain ⟨hc, hli⟩ := lieAt_get l o k HLie.out hkl
          have hs3 := size_arg hkl
          have HNx : Hid (H ++ callsAll (l.take (k + 1)) = (H ++ callsAll (l.take k)) ++ l[k].calls) := by rw [Hid, callsAll_at l k hkl, List.append_assoc]
          have hlq : q + l[k].calls.length ≤ 1048576 := by
            have h1 := congrArg List.length HNx.out
            rw [List.length_append, List.length_append, ← HQ.out] at h1
            have h2 := callsAll_size (l.take (k + 1))
            have h3 := sizes_take l (k + 1)
            have := HG.out
            have := HH1.out
            omega
          have hblk : b < w.heap.size := by
            have h0 := hc 0 (by omega)
            cases hx : l[k]
            rw [hx] at h0
            exact World.block_lt_of_cell? w ⟨b, _, none⟩ h0
          have hcr : ∀ j, j < 6 → wr.cell? ⟨b, o + k * 6 + j, none⟩ = l[k].cells[j]? := fun j hj => (HB.out.cell (p := ⟨b, o + k * 6 + j, none⟩) hblk).trans (hc j hj)
          have CC := HIH.out l[k] (by have := HM.out; omega) (by have := HG.out; omega) wr (lies_below HB.out _ hli)
          generalize l[k] = y at hcr CC HNx hlq
          obtain ⟨kd', pl', nm', it', dn', a', cap', l'⟩ := y
          have c0 : wr.cell? ⟨b, o + k * 6, none⟩ = some (.int .u8 kd') := hcr 0 (by omega)
          have c1 : wr.cell? ⟨b, o + k * 6 + 1, none⟩ = some (.int .i64 pl') := hcr 1 (by omega)
          have c2 : wr.cell? ⟨b, o + k * 6 + 2, none⟩ = some (.string nm') := hcr 2 (by omega)
          have c3 : wr.cell? ⟨b, o + k * 6 + 3, none⟩ = some (.int .i64 it') := hcr 3 (by omega)
          have c4 : wr.cell? ⟨b, o + k * 6 + 4, none⟩ = some (.int .i64 dn') := hcr 4 (by omega)
          have c5 : wr.cell? ⟨b, o + k * 6 + 5, none⟩ = some (.slice a' l'.length cap') := hcr 5 (by omega)
          simp only [Ex.val, Ex.cells, List.toArray] at CC
          generalize Ex.calls (.mk kd' pl' nm' it' dn' a' cap' l') = z at CC HNx hlq
          generalize callsAll (l.take k) = acc at HQ HMi HNx
          clear hc hcr hli hs3 hblk hkl
          go_wp2_with fail
          refine CC.mono ?_
          rintro e w2 ⟨v2, rfl, hmi2, hb2⟩
          have HMi2 : Hid (Mine w2 (w.heap.size + 1) (.slice ao q cp) (H ++ acc)) := HMi.out.below hb2
          have HV2 : Hid (Mine w2 wr.heap.size v2 z) := hmi2
          have hbox2 : w2.cell? ⟨w.heap.size, 5, none⟩ = some (.slice (some ⟨b, o, none⟩) n cap) := (hb2.cell (p := ⟨w.heap.size, 5, none⟩) hsz).trans hbox
          have hsz2 : w.heap.size < w2.heap.size := by have := hb2.size; omega
          have HB2 : Hid (Below w.heap.size w w2) := HB.out.trans (hb2.mono (by omega))
          clear CC hb2 c0 c1 c2 c3 c4 c5 hbox hsz HB hmi2 HMi
          rcases Nat.eq_zero_or_pos z.length with hz0 | hz0
          · have hze : z = [] := List.eq_nil_of_length_eq_zero hz0
            obtain rfl := HV2.out.nil hze
            have HZ : Hid (z = []) := hze
            clear hze hz0
            have hown := HMi2.out.own
            rw [← HQ.out] at hown
            have HO : Hid (w2.ownsRow (w.heap.size + 1) 9 1 (.slice ao q cp) q (textCells (H ++ acc))) := hown
            clear hown
            go_wp2_with (at_builtin; refine wpList_append_own_none rfl _ _ 31 rfl (w.heap.size + 1) 9 i0 1 Tryd.underlying31 hi _ _ _ rfl HO.out rfl ?_)
            go_wp2_with fail
            go_roundw
            case rel => exact ⟨k + 1, q, ao, cp, by omega, by omega, by go_num, rfl, by rw [Hid, HNx.out, HZ.out, List.append_nil]; exact HQ.out, by rw [Hid, HNx.out, HZ.out, List.append_nil]; exact HMi2.out, hbox2, hsz2, HB2⟩
            case measure => simp [intOf]; omega
          · obtain ⟨g2, cap2, rfl, _, hg2⟩ := HV2.out.own.form hz0
            have hown := HMi2.out.own
            rw [← HQ.out] at hown
            have HO : Hid (w2.ownsRow (w.heap.size + 1) 9 1 (.slice ao q cp) q (textCells (H ++ acc))) := hown
            clear hown
            have hnews : ∀ j u, (textCells z)[j]? = some u → w2.cell? ((⟨g2, 0, none⟩ : Addr).add j) = some u := fun j u hu => by
              rw [addr_add, Nat.zero_add]
              have hj : j < z.length := by have := (List.getElem?_eq_some_iff.1 hu).1; rwa [textCells_len] at this
              rw [HV2.out.own.cellAt j (by omega)]
              exact hu
            have HNews : Hid _ := hnews
            clear hnews
            go_wp2_with (at_builtin; refine wpList_append_lies _ rfl _ _ 31 rfl (w.heap.size + 1) 9 i0 _ 1 16 Tryd.underlying31 hi hz0' hz1 hz2 rfl (by decide) _ _ _ rfl HO.out ⟨g2, 0, none⟩ z.length cap2 (textCells z) rfl (by rw [textCells_len]; omega) HNews.out (text_one z) hz0 (by unfold maxLen; omega) (by omega) (by omega) _ rfl ?_)
            intro g cap3 w3 hown3 hgrow hat hlt3
            have R := grown_texts HB2.out HO.out hgrow hsz2
            obtain ⟨R1, R2, R3⟩ := R
            rw [hbox2] at R1
            have HR3 : Hid (Below w.heap.size w w3) := R3
            have HO3 : Hid (Mine w3 (w.heap.size + 1) (.slice (some ⟨g, 0, none⟩) (q + z.length) cap3) ((H ++ acc) ++ z)) := by
              refine ⟨?_, fun h => ?_⟩
              · have e1 : ((H ++ acc) ++ z).length = q + z.length := by rw [List.length_append, ← HQ.out]
                rw [e1, textCells_append]
                exact hown3
              · have := congrArg List.length h
                rw [List.length_append] at this
                simp only [List.length_nil] at this
                omega
            clear R3 hown3 hgrow hat hlt3 HMi2 HO HNews HV2 HB2 hbox2 hsz2
            go_wp2_with fail
            go_roundw
            case rel => exact ⟨k + 1, q + z.length, _, _, by omega, by omega, by go_num, rfl, by rw [Hid, HNx.out, List.length_append, ← HQ.out], by rw [Hid, HNx.out]; exact HO3.out, R1, R2, HR3⟩
            case measure => simp [intOf]; omega
        · obtain rfl : k = n := by omega
          have HT : Hid (callsAll (l.take k) = callsAll l) := by rw [Hid, HN.out, List.take_length]
          go_wp2_with fail
          go_ret
          refine ⟨_, rfl, ?_, HB.out⟩
          have := HMi.out
          rw [HT.out] at this
          exact this.mono (by omega)
    · rw [if_neg h4] at hH
      have HHe : Hid (H = []) := hH
      have hk4 : (kd == 4) = false := beq_false_of_ne h4
      clear hH h4
      go_enter Tryd.func19, Tryd.ntmps19
      go_wp2_with fail
      go_loopw [3, 4] (fun v i wr => ∃ (k q : Nat) (ao : Option Addr) (cp : Nat), k ≤ n ∧ q ≤ 1048576 ∧ i = .int .i64 k ∧ v = .slice ao q cp ∧ Hid (q = (H ++ callsAll (l.take k)).length) ∧ Hid (Mine wr (w.heap.size + 1) v (H ++ callsAll (l.take k))) ∧ wr.cell? ⟨w.heap.size, 5, none⟩ = some (.slice a n cap) ∧ w.heap.size < wr.heap.size ∧ Hid (Below w.heap.size w wr)) (fun _ i _ => n - (intOf i).toNat)
      case atStart => exact ⟨0, 0, none, 0, by omega, by omega, rfl, rfl, by rw [Hid, HHe.out]; simp [callsAll], by rw [Hid, HHe.out]; exact ⟨World.ownsRow_nil _ _ _ _, fun _ => rfl⟩, by simp, by simp, (Below.refl _ _).alloc (Nat.le_refl _) _⟩
      case round =>
        obtain ⟨k, q, ao, cp, hk, hq, rfl, rfl, HQ, HMi, hbox, hsz, HB⟩ := hrel
        by_cases hlt : k < n
        · have hkl : k < l.length := by rw [← HN.out]; exact hlt
          obtain rfl := HLA.out (by intro h; rw [h] at hkl; simp at hkl)
          obtain ⟨hc, hli⟩ := lieAt_get l o k HLie.out hkl
          have hs3 := size_arg hkl
          have HNx : Hid (H ++ callsAll (l.take (k + 1)) = (H ++ callsAll (l.take k)) ++ l[k].calls) := by rw [Hid, callsAll_at l k hkl, List.append_assoc]
          have hlq : q + l[k].calls.length ≤ 1048576 := by
            have h1 := congrArg List.length HNx.out
            rw [List.length_append, List.length_append, ← HQ.out] at h1
            have h2 := callsAll_size (l.take (k + 1))
            have h3 := sizes_take l (k + 1)
            have := HG.out
            have := HH1.out
            omega
          have hblk : b < w.heap.size := by
            have h0 := hc 0 (by omega)
            cases hx : l[k]
            rw [hx] at h0
            exact World.block_lt_of_cell? w ⟨b, _, none⟩ h0
          have hcr : ∀ j, j < 6 → wr.cell? ⟨b, o + k * 6 + j, none⟩ = l[k].cells[j]? := fun j hj => (HB.out.cell (p := ⟨b, o + k * 6 + j, none⟩) hblk).trans (hc j hj)
          have CC := HIH.out l[k] (by have := HM.out; omega) (by have := HG.out; omega) wr (lies_below HB.out _ hli)
          generalize l[k] = y at hcr CC HNx hlq
          obtain ⟨kd', pl', nm', it', dn', a', cap', l'⟩ := y
          have c0 : wr.cell? ⟨b, o + k * 6, none⟩ = some (.int .u8 kd') := hcr 0 (by omega)
          have c1 : wr.cell? ⟨b, o + k * 6 + 1, none⟩ = some (.int .i64 pl') := hcr 1 (by omega)
          have c2 : wr.cell? ⟨b, o + k * 6 + 2, none⟩ = some (.string nm') := hcr 2 (by omega)
          have c3 : wr.cell? ⟨b, o + k * 6 + 3, none⟩ = some (.int .i64 it') := hcr 3 (by omega)
          have c4 : wr.cell? ⟨b, o + k * 6 + 4, none⟩ = some (.int .i64 dn') := hcr 4 (by omega)
          have c5 : wr.cell? ⟨b, o + k * 6 + 5, none⟩ = some (.slice a' l'.length cap') := hcr 5 (by omega)
          simp only [Ex.val, Ex.cells, List.toArray] at CC
          generalize Ex.calls (.mk kd' pl' nm' it' dn' a' cap' l') = z at CC HNx hlq
          generalize callsAll (l.take k) = acc at HQ HMi HNx
          clear hc hcr hli hs3 hblk hkl
          go_wp2_with fail
          refine CC.mono ?_
          rintro e w2 ⟨v2, rfl, hmi2, hb2⟩
          have HMi2 : Hid (Mine w2 (w.heap.size + 1) (.slice ao q cp) (H ++ acc)) := HMi.out.below hb2
          have HV2 : Hid (Mine w2 wr.heap.size v2 z) := hmi2
          have hbox2 : w2.cell? ⟨w.heap.size, 5, none⟩ = some (.slice (some ⟨b, o, none⟩) n cap) := (hb2.cell (p := ⟨w.heap.size, 5, none⟩) hsz).trans hbox
          have hsz2 : w.heap.size < w2.heap.size := by have := hb2.size; omega
          have HB2 : Hid (Below w.heap.size w w2) := HB.out.trans (hb2.mono (by omega))
          clear CC hb2 c0 c1 c2 c3 c4 c5 hbox hsz HB hmi2 HMi
          rcases Nat.eq_zero_or_pos z.length with hz0 | hz0
          · have hze : z = [] := List.eq_nil_of_length_eq_zero hz0
            obtain rfl := HV2.out.nil hze
            have HZ : Hid (z = []) := hze
            clear hze hz0
            have hown := HMi2.out.own
            rw [← HQ.out] at hown
            have HO : Hid (w2.ownsRow (w.heap.size + 1) 9 1 (.slice ao q cp) q (textCells (H ++ acc))) := hown
            clear hown
            go_wp2_with (at_builtin; refine wpList_append_own_none rfl _ _ 31 rfl (w.heap.size + 1) 9 i0 1 Tryd.underlying31 hi _ _ _ rfl HO.out rfl ?_)
            go_wp2_with fail
            go_roundw
            case rel => exact ⟨k + 1, q, ao, cp, by omega, by omega, by go_num, rfl, by rw [Hid, HNx.out, HZ.out, List.append_nil]; exact HQ.out, by rw [Hid, HNx.out, HZ.out, List.append_nil]; exact HMi2.out, hbox2, hsz2, HB2⟩
            case measure => simp [intOf]; omega
          · obtain ⟨g2, cap2, rfl, _, hg2⟩ := HV2.out.own.form hz0
            have hown := HMi2.out.own
            rw [← HQ.out] at hown
            have HO : Hid (w2.ownsRow (w.heap.size + 1) 9 1 (.slice ao q cp) q (textCells (H ++ acc))) := hown
            clear hown
            have hnews : ∀ j u, (textCells z)[j]? = some u → w2.cell? ((⟨g2, 0, none⟩ : Addr).add j) = some u := fun j u hu => by
              rw [addr_add, Nat.zero_add]
              have hj : j < z.length := by have := (List.getElem?_eq_some_iff.1 hu).1; rwa [textCells_len] at this
              rw [HV2.out.own.cellAt j (by omega)]
              exact hu
            have HNews : Hid _ := hnews
            clear hnews
            go_wp2_with (at_builtin; refine wpList_append_lies _ rfl _ _ 31 rfl (w.heap.size + 1) 9 i0 _ 1 16 Tryd.underlying31 hi hz0' hz1 hz2 rfl (by decide) _ _ _ rfl HO.out ⟨g2, 0, none⟩ z.length cap2 (textCells z) rfl (by rw [textCells_len]; omega) HNews.out (text_one z) hz0 (by unfold maxLen; omega) (by omega) (by omega) _ rfl ?_)
            intro g cap3 w3 hown3 hgrow hat hlt3
            have R := grown_texts HB2.out HO.out hgrow hsz2
            obtain ⟨R1, R2, R3⟩ := R
            rw [hbox2] at R1
            have HR3 : Hid (Below w.heap.size w w3) := R3
            have HO3 : Hid (Mine w3 (w.heap.size + 1) (.slice (some ⟨g, 0, none⟩) (q + z.length) cap3) ((H ++ acc) ++ z)) := by
              refine ⟨?_, fun h => ?_⟩
              · have e1 : ((H ++ acc) ++ z).length = q + z.length := by rw [List.length_append, ← HQ.out]
                rw [e1, textCells_append]
                exact hown3
              · have := congrArg List.length h
                rw [List.length_append] at this
                simp only [List.length_nil] at this
                omega
            clear R3 hown3 hgrow hat hlt3 HMi2 HO HNews HV2 HB2 hbox2 hsz2
            go_wp2_with fail
            go_roundw
            case rel => exact ⟨k + 1, q + z.length, _, _, by omega, by omega, by go_num, rfl, by rw [Hid, HNx.out, List.length_append, ← HQ.out], by rw [Hid, HNx.out]; exact HO3.out, R1, R2, HR3⟩
            case measure => simp [intOf]; omega
        · obtain rfl : k = n := by omega
          have HT : Hid (callsAll (l.take k) = callsAll l) := by rw [Hid, HN.out, List.take_length]
          go_wp2_with fail
          go_ret
          refine ⟨_, rfl, ?_, HB.out⟩
          have := HMi.out
          rw [HT.out] at this
          exact this.mono (by omega)
end Go.Proofs.YtbgndapaccdjoaaDoor
