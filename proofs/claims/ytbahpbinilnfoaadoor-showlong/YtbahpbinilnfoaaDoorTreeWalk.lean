/- The program's walk: whatever the visit does, if it keeps what is asked at each expression, all are visited in order. -/
import Derived.Test.YtbahpbinilnfoaaDoorTreeFrames
import Derived.WalkKit
import Derived.Deep.QuietTactic
import Derived.BigQuiet
namespace Go.Proofs.YtbahpbinilnfoaaDoor
open Go.RowKit
open Ex.size Ex.depth Ex.lies Ex.bulk Ex.good
attribute [local go_sem] later_size later_cell later_frozen later_setCell later_drew later_drewN later_tape drewN_setCell drewN_alloc drewN_later later_later lt_more lt_more1 lt_more2 lt_more3 lt_more4 lk0_0_1 lk1_0_1 lk2_0_1 lk0_0_2 lk1_0_2 lk2_0_2 lk0_1_2 lk0_0_3 lk1_0_3 lk2_0_3 lk0_1_3 lk0_2_3 lk0_0_4 lk1_0_4 lk2_0_4 lk0_1_4 lk0_2_4 lk0_3_4 lk0_0_5 lk1_0_5 lk2_0_5 lk0_1_5 lk0_2_5 lk0_3_5 lk0_4_5 lk0_0_6 lk1_0_6 lk2_0_6 lk0_1_6 lk0_2_6 lk0_3_6 lk0_4_6 lk0_5_6 lk0_0_7 lk1_0_7 lk2_0_7 lk0_1_7 lk0_2_7 lk0_3_7 lk0_4_7 lk0_5_7 lk0_6_7
theorem Tryd.infoLevel : (Tryd.prog.info? 111).map (fun i => (i.zero, i.size, i.bytes)) = some (some (.agg #[.slice none 0 0, .int .i64 0]), 2, 32) := by kernel_rfl
/-- What a visit must do. -/
def Visits (fn : Nat) (caps : Array Value) (B : Nat) (J : List Fr → World → Prop) : Prop :=
  ∀ (fs : List Fr) (b o c : Nat) (e : Ex) (l : List Ex) (d : Nat) (w : World), J (fs ++ [⟨b, o, c, e :: l, d⟩]) w → fitAll (fs ++ [⟨b, o, c, e :: l, d⟩]) → B ≤ w.heap.size →
    Calls Tryd.prog fn (#[.pointer (some ⟨b, o, none⟩), .int .i64 d] ++ caps) w fun x w' => x = .returned (.tuple #[]) ∧ keepsLevels w w' ∧ w.heap.size ≤ w'.heap.size ∧
      ∃ a' b' o' c', w'.cell? ⟨b, o + 5, none⟩ = some (.slice a' e.args.length c') ∧ (e.args ≠ [] → a' = some ⟨b', o', none⟩) ∧ e.args.length ≤ c' ∧ c' ≤ maxLen ∧ J (nextFrs fs b o c l d b' o' c' e.args) w'
/-- What holds at the loop's head, with so much left. -/
def WalkRel (B : Nat) (J : List Fr → World → Prop) (v : Value) (w : World) (m : Nat) : Prop :=
  ∃ fs : List Fr, m = frSizes fs ∧ frSizes fs ≤ 1048576 ∧ fitAll fs ∧ w.ownsRow B 111 2 v fs.length (frCells fs) ∧ J fs w ∧ B ≤ w.heap.size
set_option maxRecDepth 100000 in
set_option maxHeartbeats 3200000 in
theorem walk_calls (fn : Nat) (caps : Array Value) (J : List Fr → World → Prop) (w : World) (hent : ∀ args w, (callFunc fn args).run Tryd.prog w = .ok (.enter fn args) w)
    (hstab : ∀ fs w1 w2, J fs w1 → w.heap.size ≤ w1.heap.size → ButLevels w.heap.size w1 w2 → J fs w2)
    (hv : Visits fn caps w.heap.size J) (b o c : Nat) (l : List Ex) (hl : l ≠ []) (hc : l.length ≤ c) (hcm : c ≤ maxLen) (hs : sizes l ≤ 1048576) (hJ : J [⟨b, o, c, l, 1⟩] w) :
    Calls Tryd.prog 56 #[.slice (some ⟨b, o, none⟩) l.length c, .func (.func fn) #[] caps] w fun x w' => x = .returned (.tuple #[]) ∧ J [] w' := by
  obtain ⟨i0, hi, hz0', hz1, hz2⟩ := info_parts Tryd.infoLevel
  have HJ : Hid _ := hJ
  have HStab : Hid _ := hstab
  have HV : Hid (Visits fn caps w.heap.size J) := hv
  have HS : Hid _ := hs
  have HC : Hid _ := hc
  have HCm : Hid _ := hcm
  have HL : Hid _ := hl
  clear hJ hstab hv hs hc hcm hl
  go_enter Tryd.func56, Tryd.ntmps56
  go_wp2_with fail
  go_loopw [4] (fun v wr => ∃ m, Hid (WalkRel w.heap.size J v wr m)) (fun v wr => Classical.epsilon fun m => Hid (WalkRel w.heap.size J v wr m) ∧ ∀ k, Hid (WalkRel w.heap.size J v wr k) → m ≤ k)
  case atStart =>
    refine ⟨_, [⟨b, o, c, l, 1⟩], rfl, by have := HS.out; simpa [frSizes] using this, ?_, ?_, HStab.out _ _ _ HJ.out (Nat.le_refl _) (butLevels_alloc _ _), by simp⟩
    · intro f hf
      rw [List.mem_singleton] at hf
      subst hf
      exact ⟨HL.out, HC.out, HCm.out, by have := HS.out; show 1 + sizes l ≤ 1048577; omega⟩
    · exact World.ownsRow_lit w #[.slice (some ⟨b, o, none⟩) l.length c, .int .i64 1] 1 (Nat.le_refl _) (by unfold maxLen; omega) rfl
  case round =>
    obtain ⟨h1, h2⟩ := least_spec hrel
    have HM1 : Hid _ := h2
    clear hrel h2
    obtain ⟨fs, hm, hsz, hfit, hown, hJr, hBr⟩ := h1.out
    have HM : Hid _ := hm
    clear hm
    rcases List.eq_nil_or_concat fs with rfl | ⟨fs, f, rfl⟩
    · have hu : ∃ a cp, u4 = .slice a 0 cp := by
        rcases hown.2 with ⟨rfl, _⟩ | ⟨g, cap, cur, rfl, _⟩
        · exact ⟨_, _, rfl⟩
        · exact ⟨_, _, rfl⟩
      obtain ⟨a, cp, rfl⟩ := hu
      have HJr : Hid _ := hJr
      clear hown hJr HM HM1 h1 hfit hsz
      go_wp2_with fail
      go_end0
      exact ⟨rfl, HJr.out⟩
    · simp only [List.concat_eq_append] at *
      obtain ⟨b1, o1, c1, l1, d1⟩ := f
      obtain ⟨-, hf1⟩ := fitAll_app.1 hfit
      have hf := hf1 ⟨b1, o1, c1, l1, d1⟩ (by simp)
      obtain ⟨hne, hc1, hc2, hd⟩ := hf
      match l1, hne with
      | e :: l1, _ =>
      simp only [List.length_append, List.length_cons, List.length_nil, Nat.zero_add] at hown hc1 hd hc2
      have hshape : ∃ g cap, u4 = .slice (some ⟨g, 0, none⟩) (fs.length + 1) cap ∧ w.heap.size ≤ g ∧ fs.length + 1 ≤ cap ∧ cap ≤ maxLen := by
        rcases hown.2 with ⟨_, h0⟩ | ⟨g, cap, cur, rfl, hg, _, hcc, hcm, _⟩
        · omega
        · exact ⟨g, cap, rfl, hg, hcc, hcm⟩
      obtain ⟨g, cap, rfl, hg, hcap, hcapm⟩ := hshape
      obtain ⟨k0, k1⟩ := row_cell0 fs ⟨b1, o1, c1, e :: l1, d1⟩ hown
      simp only [List.length_cons] at k0 k1
      have hfz : wr.frozen? ⟨g, fs.length * 2, none⟩ = false := hown.frozenAt _
      have hfl := len_frSizes hfit
      simp only [List.length_append, List.length_cons, List.length_nil, Nat.zero_add] at hfl
      have HFit : Hid (fitAll (fs ++ [⟨b1, o1, c1, e :: l1, d1⟩])) := hfit
      have HJr : Hid _ := hJr
      have HSz : Hid _ := hsz
      have HBr : Hid _ := hBr
      have HOwn : Hid (wr.ownsRow w.heap.size 111 2 (.slice (some ⟨g, 0, none⟩) (fs.length + 1) cap) (fs.length + 1) (frCells (fs ++ [⟨b1, o1, c1, e :: l1, d1⟩]))) := hown
      have hnn : fs.length ≤ 1048575 := by omega
      clear hf1 hfit hJr hsz hBr hown hfl h1
      by_cases hl1 : l1 = []
      · subst hl1
        by_cases hq : c1 = 1
        · subst hq
          have hst := HOwn.out.stored (fs.length * 2) (.slice (some ⟨b1, o1, none⟩) 0 0)
          have hW1 := butLevels_grown HOwn.out hst.2
          have CV := fun q => HV.out fs b1 o1 1 e [] d1 ((wr.setCell ⟨g, fs.length * 2, none⟩ (.slice (some ⟨b1, o1, none⟩) 0 0)).drewN q) (HStab.out _ _ _ HJr.out HBr.out (butLevels_drewN hW1 q)) HFit.out (Nat.le_trans HBr.out hW1.size)
          have HSz1 : Hid _ := hW1.size
          have HRow : Hid ((wr.setCell ⟨g, fs.length * 2, none⟩ (.slice (some ⟨b1, o1, none⟩) 0 0)).ownsRow w.heap.size 111 2 (.slice (some ⟨g, 0, none⟩) (fs.length) cap) (fs.length) (frCells (fs))) := ownsRow_pop (xs := frCells fs) (frCells_len fs) (last := [.slice (some ⟨b1, o1, none⟩) 0 0, .int .i64 d1]) (by have := hst.1; rw [row_set' fs ⟨b1, o1, 1, [e], d1⟩] at this; exact this)
          clear hst hW1 HJr
          go_wp2_with fail
          go_quiet (fail)
          go_wp2_with fail
          refine (CV _).mono ?_
          rintro x w2 ⟨rfl, hkeep, hsz2, a', b', o', c', hcell, ha', hc', hcm', hJ2⟩
          have HRow2 : Hid (w2.ownsRow w.heap.size 111 2 (.slice (some ⟨g, 0, none⟩) (fs.length) cap) (fs.length) (frCells (fs))) := row_kept (row_drewN HRow.out _) hkeep
          have HB2 : Hid (w.heap.size ≤ w2.heap.size) := Nat.le_trans (Nat.le_trans HBr.out HSz1.out) hsz2
          have HJ2 : Hid _ := hJ2
          have HFit2 : Hid _ := @fit_next fs b1 o1 1 e [] d1 b' o' c' HFit.out hc' hcm'
          have HSizes : Hid _ := frSizes_next fs b1 o1 1 e [] d1 b' o' c'
          have hal : e.args.length ≤ 1048576 := args_few HSz.out
          have hdd : d1 ≤ 1048577 := by have := size_pos e; simp only [sizes] at hd; omega
          clear CV hkeep hsz2 hJ2 k0 k1 hfz HRow HSz1 HBr HOwn HFit
          by_cases hargs : e.args = []
          · have HF : Hid (nextFrs fs b1 o1 1 [] d1 b' o' c' e.args = fs) := by rw [Hid, nextFrs, hargs]; simp
            have hal0 : e.args.length = 0 := by rw [hargs]; rfl
            rw [hal0] at hcell
            clear hargs ha' hal hal0 hc' hcm'
            go_wp2_with fail
            have HEnd : Hid (WalkRel w.heap.size J (.slice (some ⟨g, 0, none⟩) (fs.length) cap) w2 (frSizes (fs))) := by
              have h1 := HFit2.out
              have h2 := HJ2.out
              have h3 := HSizes.out
              have h4 := HSz.out
              rw [HF.out] at h1 h2 h3
              exact ⟨_, rfl, by omega, h1, by simpa using HRow2.out, h2, HB2.out⟩
            go_roundw
            case rel => exact ⟨_, HEnd⟩
            case measure =>
              have h3 := (least_spec ⟨_, HEnd⟩).2 _ HEnd
              have h4 := HSizes.out
              rw [HF.out] at h4
              have h5 := HM.out
              refine Nat.lt_of_le_of_lt h3 (Nat.lt_of_lt_of_eq ?_ h5.symm)
              omega
          · obtain rfl := ha' hargs
            have HF : Hid (nextFrs fs b1 o1 1 [] d1 b' o' c' e.args = (fs) ++ [⟨b', o', c', e.args, d1 + 1⟩]) := by rw [Hid, nextFrs, if_neg hargs]; simp
            have hpos : 0 < e.args.length := List.length_pos_iff.2 hargs
            clear hargs hc' hcm' ha'
            generalize hL : e.args.length = La at *
            have HLa : Hid _ := hL
            clear hL
            go_wp2_with (at_builtin; refine wpList_append_lies _ rfl _ _ 112 rfl w.heap.size 111 i0 _ 2 32 Tryd.underlying112 hi hz0' hz1 hz2 rfl (by decide) _ _ _ rfl (HRow2.out.alloc _) ⟨w2.heap.size, 0, none⟩ 1 1 [.slice (some ⟨b', o', none⟩) La c', .int .i64 (d1 + 1)] rfl rfl (fun j u hj => by rw [addr_add, Nat.zero_add, World.cell?_alloc_at _ _ _ _ (by simp)]; simpa using hj) (fun u hu => by simp at hu; rcases hu with rfl | rfl <;> rfl) (by decide) (by unfold maxLen; omega) (by omega) (by have := HB2.out; simp; omega) _ rfl ?_)
            intro g3 cap3 w3 hown3 hgrow hat hlt3
            have hbl := butLevels_grown (HRow2.out.alloc _) hgrow
            have HJ3 : Hid (J (nextFrs fs b1 o1 1 [] d1 b' o' c' e.args) w3) := HStab.out _ _ _ HJ2.out HB2.out (butLevels_trans (butLevels_alloc w2 _) hbl)
            have HB3 : Hid (w.heap.size ≤ w3.heap.size) := by have h1 := hbl.size; have h2 := HB2.out; simp at h1; rw [Hid]; omega
            have HRow3 : Hid (w3.ownsRow w.heap.size 111 2 (.slice (some ⟨g3, 0, none⟩) ((fs.length) + 1) cap3) (((fs) ++ [⟨b', o', c', e.args, d1 + 1⟩] : List Fr).length) (frCells ((fs) ++ [⟨b', o', c', e.args, d1 + 1⟩]))) := by
              rw [Hid, frCells_app]
              have e1 : frCells [⟨b', o', c', e.args, d1 + 1⟩] = [.slice (some ⟨b', o', none⟩) La c', .int .i64 (d1 + 1)] := by simp [frCells, Fr.cells, HLa.out]
              rw [e1]
              simpa using hown3
            clear hown3 hgrow hat hlt3 hbl HRow2 HJ2 HB2
            go_wp2_with fail
            have HEnd : Hid (WalkRel w.heap.size J (.slice (some ⟨g3, 0, none⟩) ((fs.length) + 1) cap3) w3 (frSizes ((fs) ++ [⟨b', o', c', e.args, d1 + 1⟩]))) := by
              have h1 := HFit2.out
              have h2 := HJ3.out
              have h3 := HSizes.out
              have h4 := HSz.out
              rw [HF.out] at h1 h2 h3
              exact ⟨_, rfl, by omega, h1, HRow3.out, h2, HB3.out⟩
            go_roundw
            case rel => exact ⟨_, HEnd⟩
            case measure =>
              have h3 := (least_spec ⟨_, HEnd⟩).2 _ HEnd
              have h4 := HSizes.out
              rw [HF.out] at h4
              have h5 := HM.out
              refine Nat.lt_of_le_of_lt h3 (Nat.lt_of_lt_of_eq ?_ h5.symm)
              omega
        · have HQ : 2 ≤ c1 := by simp at hc1; omega
          have hst := HOwn.out.stored (fs.length * 2) (.slice (some ⟨b1, o1 + 6, none⟩) 0 (c1 - 1))
          have hW1 := butLevels_grown HOwn.out hst.2
          have CV := fun q => HV.out fs b1 o1 c1 e [] d1 ((wr.setCell ⟨g, fs.length * 2, none⟩ (.slice (some ⟨b1, o1 + 6, none⟩) 0 (c1 - 1))).drewN q) (HStab.out _ _ _ HJr.out HBr.out (butLevels_drewN hW1 q)) HFit.out (Nat.le_trans HBr.out hW1.size)
          have HSz1 : Hid _ := hW1.size
          have HRow : Hid ((wr.setCell ⟨g, fs.length * 2, none⟩ (.slice (some ⟨b1, o1 + 6, none⟩) 0 (c1 - 1))).ownsRow w.heap.size 111 2 (.slice (some ⟨g, 0, none⟩) (fs.length) cap) (fs.length) (frCells (fs))) := ownsRow_pop (xs := frCells fs) (frCells_len fs) (last := [.slice (some ⟨b1, o1 + 6, none⟩) 0 (c1 - 1), .int .i64 d1]) (by have := hst.1; rw [row_set' fs ⟨b1, o1, c1, [e], d1⟩] at this; exact this)
          clear hst hW1 HJr
          go_wp2_with fail
          go_quiet (fail)
          go_wp2_with fail
          refine (CV _).mono ?_
          rintro x w2 ⟨rfl, hkeep, hsz2, a', b', o', c', hcell, ha', hc', hcm', hJ2⟩
          have HRow2 : Hid (w2.ownsRow w.heap.size 111 2 (.slice (some ⟨g, 0, none⟩) (fs.length) cap) (fs.length) (frCells (fs))) := row_kept (row_drewN HRow.out _) hkeep
          have HB2 : Hid (w.heap.size ≤ w2.heap.size) := Nat.le_trans (Nat.le_trans HBr.out HSz1.out) hsz2
          have HJ2 : Hid _ := hJ2
          have HFit2 : Hid _ := @fit_next fs b1 o1 c1 e [] d1 b' o' c' HFit.out hc' hcm'
          have HSizes : Hid _ := frSizes_next fs b1 o1 c1 e [] d1 b' o' c'
          have hal : e.args.length ≤ 1048576 := args_few HSz.out
          have hdd : d1 ≤ 1048577 := by have := size_pos e; simp only [sizes] at hd; omega
          clear CV hkeep hsz2 hJ2 k0 k1 hfz HRow HSz1 HBr HOwn HFit
          by_cases hargs : e.args = []
          · have HF : Hid (nextFrs fs b1 o1 c1 [] d1 b' o' c' e.args = fs) := by rw [Hid, nextFrs, hargs]; simp
            have hal0 : e.args.length = 0 := by rw [hargs]; rfl
            rw [hal0] at hcell
            clear hargs ha' hal hal0 hc' hcm'
            go_wp2_with fail
            have HEnd : Hid (WalkRel w.heap.size J (.slice (some ⟨g, 0, none⟩) (fs.length) cap) w2 (frSizes (fs))) := by
              have h1 := HFit2.out
              have h2 := HJ2.out
              have h3 := HSizes.out
              have h4 := HSz.out
              rw [HF.out] at h1 h2 h3
              exact ⟨_, rfl, by omega, h1, by simpa using HRow2.out, h2, HB2.out⟩
            go_roundw
            case rel => exact ⟨_, HEnd⟩
            case measure =>
              have h3 := (least_spec ⟨_, HEnd⟩).2 _ HEnd
              have h4 := HSizes.out
              rw [HF.out] at h4
              have h5 := HM.out
              refine Nat.lt_of_le_of_lt h3 (Nat.lt_of_lt_of_eq ?_ h5.symm)
              omega
          · obtain rfl := ha' hargs
            have HF : Hid (nextFrs fs b1 o1 c1 [] d1 b' o' c' e.args = (fs) ++ [⟨b', o', c', e.args, d1 + 1⟩]) := by rw [Hid, nextFrs, if_neg hargs]; simp
            have hpos : 0 < e.args.length := List.length_pos_iff.2 hargs
            clear hargs hc' hcm' ha'
            generalize hL : e.args.length = La at *
            have HLa : Hid _ := hL
            clear hL
            go_wp2_with (at_builtin; refine wpList_append_lies _ rfl _ _ 112 rfl w.heap.size 111 i0 _ 2 32 Tryd.underlying112 hi hz0' hz1 hz2 rfl (by decide) _ _ _ rfl (HRow2.out.alloc _) ⟨w2.heap.size, 0, none⟩ 1 1 [.slice (some ⟨b', o', none⟩) La c', .int .i64 (d1 + 1)] rfl rfl (fun j u hj => by rw [addr_add, Nat.zero_add, World.cell?_alloc_at _ _ _ _ (by simp)]; simpa using hj) (fun u hu => by simp at hu; rcases hu with rfl | rfl <;> rfl) (by decide) (by unfold maxLen; omega) (by omega) (by have := HB2.out; simp; omega) _ rfl ?_)
            intro g3 cap3 w3 hown3 hgrow hat hlt3
            have hbl := butLevels_grown (HRow2.out.alloc _) hgrow
            have HJ3 : Hid (J (nextFrs fs b1 o1 c1 [] d1 b' o' c' e.args) w3) := HStab.out _ _ _ HJ2.out HB2.out (butLevels_trans (butLevels_alloc w2 _) hbl)
            have HB3 : Hid (w.heap.size ≤ w3.heap.size) := by have h1 := hbl.size; have h2 := HB2.out; simp at h1; rw [Hid]; omega
            have HRow3 : Hid (w3.ownsRow w.heap.size 111 2 (.slice (some ⟨g3, 0, none⟩) ((fs.length) + 1) cap3) (((fs) ++ [⟨b', o', c', e.args, d1 + 1⟩] : List Fr).length) (frCells ((fs) ++ [⟨b', o', c', e.args, d1 + 1⟩]))) := by
              rw [Hid, frCells_app]
              have e1 : frCells [⟨b', o', c', e.args, d1 + 1⟩] = [.slice (some ⟨b', o', none⟩) La c', .int .i64 (d1 + 1)] := by simp [frCells, Fr.cells, HLa.out]
              rw [e1]
              simpa using hown3
            clear hown3 hgrow hat hlt3 hbl HRow2 HJ2 HB2
            go_wp2_with fail
            have HEnd : Hid (WalkRel w.heap.size J (.slice (some ⟨g3, 0, none⟩) ((fs.length) + 1) cap3) w3 (frSizes ((fs) ++ [⟨b', o', c', e.args, d1 + 1⟩]))) := by
              have h1 := HFit2.out
              have h2 := HJ3.out
              have h3 := HSizes.out
              have h4 := HSz.out
              rw [HF.out] at h1 h2 h3
              exact ⟨_, rfl, by omega, h1, HRow3.out, h2, HB3.out⟩
            go_roundw
            case rel => exact ⟨_, HEnd⟩
            case measure =>
              have h3 := (least_spec ⟨_, HEnd⟩).2 _ HEnd
              have h4 := HSizes.out
              rw [HF.out] at h4
              have h5 := HM.out
              refine Nat.lt_of_le_of_lt h3 (Nat.lt_of_lt_of_eq ?_ h5.symm)
              omega
      · have hq : ¬ c1 = 1 := by have := List.length_pos_iff.2 hl1; omega
        have hlp : 0 < l1.length := List.length_pos_iff.2 hl1
        have HNE : Hid (l1 ≠ []) := hl1
        clear hl1
        have hst := HOwn.out.stored (fs.length * 2) (.slice (some ⟨b1, o1 + 6, none⟩) l1.length (c1 - 1))
        have hW1 := butLevels_grown HOwn.out hst.2
        have CV := fun q => HV.out fs b1 o1 c1 e l1 d1 ((wr.setCell ⟨g, fs.length * 2, none⟩ (.slice (some ⟨b1, o1 + 6, none⟩) l1.length (c1 - 1))).drewN q) (HStab.out _ _ _ HJr.out HBr.out (butLevels_drewN hW1 q)) HFit.out (Nat.le_trans HBr.out hW1.size)
        have HSz1 : Hid _ := hW1.size
        have HRow : Hid ((wr.setCell ⟨g, fs.length * 2, none⟩ (.slice (some ⟨b1, o1 + 6, none⟩) l1.length (c1 - 1))).ownsRow w.heap.size 111 2 (.slice (some ⟨g, 0, none⟩) (fs.length + 1) cap) (fs.length + 1) (frCells (fs ++ [⟨b1, o1 + 6, c1 - 1, l1, d1⟩]))) := by have := hst.1; rw [row_set fs ⟨b1, o1, c1, e :: l1, d1⟩ ⟨b1, o1 + 6, c1 - 1, l1, d1⟩ rfl] at this; exact this
        clear hst hW1 HJr
        go_wp2_with fail
        go_quiet (fail)
        go_wp2_with fail
        refine (CV _).mono ?_
        rintro x w2 ⟨rfl, hkeep, hsz2, a', b', o', c', hcell, ha', hc', hcm', hJ2⟩
        have HRow2 : Hid (w2.ownsRow w.heap.size 111 2 (.slice (some ⟨g, 0, none⟩) (fs.length + 1) cap) (fs.length + 1) (frCells (fs ++ [⟨b1, o1 + 6, c1 - 1, l1, d1⟩]))) := row_kept (row_drewN HRow.out _) hkeep
        have HB2 : Hid (w.heap.size ≤ w2.heap.size) := Nat.le_trans (Nat.le_trans HBr.out HSz1.out) hsz2
        have HJ2 : Hid _ := hJ2
        have HFit2 : Hid _ := @fit_next fs b1 o1 c1 e l1 d1 b' o' c' HFit.out hc' hcm'
        have HSizes : Hid _ := frSizes_next fs b1 o1 c1 e l1 d1 b' o' c'
        have hal : e.args.length ≤ 1048576 := args_few HSz.out
        have hdd : d1 ≤ 1048577 := by have := size_pos e; simp only [sizes] at hd; omega
        clear CV hkeep hsz2 hJ2 k0 k1 hfz HRow HSz1 HBr HOwn HFit
        by_cases hargs : e.args = []
        · have HF : Hid (nextFrs fs b1 o1 c1 l1 d1 b' o' c' e.args = fs ++ [⟨b1, o1 + 6, c1 - 1, l1, d1⟩]) := by rw [Hid, nextFrs, hargs]; rw [if_neg HNE.out] <;> simp
          have hal0 : e.args.length = 0 := by rw [hargs]; rfl
          rw [hal0] at hcell
          clear hargs ha' hal hal0 hc' hcm'
          go_wp2_with fail
          have HEnd : Hid (WalkRel w.heap.size J (.slice (some ⟨g, 0, none⟩) (fs.length + 1) cap) w2 (frSizes (fs ++ [⟨b1, o1 + 6, c1 - 1, l1, d1⟩]))) := by
            have h1 := HFit2.out
            have h2 := HJ2.out
            have h3 := HSizes.out
            have h4 := HSz.out
            rw [HF.out] at h1 h2 h3
            exact ⟨_, rfl, by omega, h1, by simpa using HRow2.out, h2, HB2.out⟩
          go_roundw
          case rel => exact ⟨_, HEnd⟩
          case measure =>
            have h3 := (least_spec ⟨_, HEnd⟩).2 _ HEnd
            have h4 := HSizes.out
            rw [HF.out] at h4
            have h5 := HM.out
            refine Nat.lt_of_le_of_lt h3 (Nat.lt_of_lt_of_eq ?_ h5.symm)
            omega
        · obtain rfl := ha' hargs
          have HF : Hid (nextFrs fs b1 o1 c1 l1 d1 b' o' c' e.args = (fs ++ [⟨b1, o1 + 6, c1 - 1, l1, d1⟩]) ++ [⟨b', o', c', e.args, d1 + 1⟩]) := by rw [Hid, nextFrs, if_neg hargs]; rw [if_neg HNE.out] <;> simp
          have hpos : 0 < e.args.length := List.length_pos_iff.2 hargs
          clear hargs hc' hcm' ha'
          generalize hL : e.args.length = La at *
          have HLa : Hid _ := hL
          clear hL
          go_wp2_with (at_builtin; refine wpList_append_lies _ rfl _ _ 112 rfl w.heap.size 111 i0 _ 2 32 Tryd.underlying112 hi hz0' hz1 hz2 rfl (by decide) _ _ _ rfl (HRow2.out.alloc _) ⟨w2.heap.size, 0, none⟩ 1 1 [.slice (some ⟨b', o', none⟩) La c', .int .i64 (d1 + 1)] rfl rfl (fun j u hj => by rw [addr_add, Nat.zero_add, World.cell?_alloc_at _ _ _ _ (by simp)]; simpa using hj) (fun u hu => by simp at hu; rcases hu with rfl | rfl <;> rfl) (by decide) (by unfold maxLen; omega) (by omega) (by have := HB2.out; simp; omega) _ rfl ?_)
          intro g3 cap3 w3 hown3 hgrow hat hlt3
          have hbl := butLevels_grown (HRow2.out.alloc _) hgrow
          have HJ3 : Hid (J (nextFrs fs b1 o1 c1 l1 d1 b' o' c' e.args) w3) := HStab.out _ _ _ HJ2.out HB2.out (butLevels_trans (butLevels_alloc w2 _) hbl)
          have HB3 : Hid (w.heap.size ≤ w3.heap.size) := by have h1 := hbl.size; have h2 := HB2.out; simp at h1; rw [Hid]; omega
          have HRow3 : Hid (w3.ownsRow w.heap.size 111 2 (.slice (some ⟨g3, 0, none⟩) ((fs.length + 1) + 1) cap3) (((fs ++ [⟨b1, o1 + 6, c1 - 1, l1, d1⟩]) ++ [⟨b', o', c', e.args, d1 + 1⟩] : List Fr).length) (frCells ((fs ++ [⟨b1, o1 + 6, c1 - 1, l1, d1⟩]) ++ [⟨b', o', c', e.args, d1 + 1⟩]))) := by
            rw [Hid, frCells_app]
            have e1 : frCells [⟨b', o', c', e.args, d1 + 1⟩] = [.slice (some ⟨b', o', none⟩) La c', .int .i64 (d1 + 1)] := by simp [frCells, Fr.cells, HLa.out]
            rw [e1]
            simpa using hown3
          clear hown3 hgrow hat hlt3 hbl HRow2 HJ2 HB2
          go_wp2_with fail
          have HEnd : Hid (WalkRel w.heap.size J (.slice (some ⟨g3, 0, none⟩) ((fs.length + 1) + 1) cap3) w3 (frSizes ((fs ++ [⟨b1, o1 + 6, c1 - 1, l1, d1⟩]) ++ [⟨b', o', c', e.args, d1 + 1⟩]))) := by
            have h1 := HFit2.out
            have h2 := HJ3.out
            have h3 := HSizes.out
            have h4 := HSz.out
            rw [HF.out] at h1 h2 h3
            exact ⟨_, rfl, by omega, h1, HRow3.out, h2, HB3.out⟩
          go_roundw
          case rel => exact ⟨_, HEnd⟩
          case measure =>
            have h3 := (least_spec ⟨_, HEnd⟩).2 _ HEnd
            have h4 := HSizes.out
            rw [HF.out] at h4
            have h5 := HM.out
            refine Nat.lt_of_le_of_lt h3 (Nat.lt_of_lt_of_eq ?_ h5.symm)
            omega
end Go.Proofs.YtbahpbinilnfoaaDoor
