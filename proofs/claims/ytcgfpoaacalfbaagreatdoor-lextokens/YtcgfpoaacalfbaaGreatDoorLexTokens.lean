/- The document's answer of layer 3: Tokens. -/
import Derived.Test.YtcgfpoaacalfbaaGreatDoorLexTok
import Derived.Test.YtcgfpoaacalfbaaGreatDoorLexRow
import Derived.Deep.AppendLies
import Derived.OwnWalk
import Derived.Deep.Onto
namespace Go.Proofs.YtcgfpoaacalfbaaGreatDoor
open Go.RowKit
attribute [local go_sem] later_size later_cell later_frozen later_setCell later_drew later_drewN later_tape drewN_setCell drewN_alloc drewN_later later_later lt_more lt_more1 lt_more2 lt_more3 lt_more4 lk0_0_1 lk1_0_1 lk2_0_1 lk0_0_2 lk1_0_2 lk2_0_2 lk0_1_2 lk0_0_3 lk1_0_3 lk2_0_3 lk0_1_3 lk0_2_3 lk0_0_4 lk1_0_4 lk2_0_4 lk0_1_4 lk0_2_4 lk0_3_4 lk0_0_5 lk1_0_5 lk2_0_5 lk0_1_5 lk0_2_5 lk0_3_5 lk0_4_5 lk0_0_6 lk1_0_6 lk2_0_6 lk0_1_6 lk0_2_6 lk0_3_6 lk0_4_6 lk0_5_6 lk0_0_7 lk1_0_7 lk2_0_7 lk0_1_7 lk0_2_7 lk0_3_7 lk0_4_7 lk0_5_7 lk0_6_7
set_option maxHeartbeats 3200000 in
theorem tokens_calls (s : ByteArray) (w : World) (hs : s.size ≤ 65536) :
    Calls Tryz.prog 6 #[.string s] w fun e w' => ∃ v, e = .returned (.tuple #[v, .agg #[.int .i64 (lexOf s).2.1, .int .i64 (lexOf s).2.2]]) ∧ w'.ownsRow w.heap.size 39 4 v (lexOf s).1.length (toksCells (lexOf s).1) ∧ Below w.heap.size w w' := by
  have HL : Hid (lexOf s = scanFrom s (afterTo s 0) []) := by rw [Hid, lexOf, if_neg (by omega)]
  obtain ⟨i0, hi, hz0, hz1, hz2⟩ := info_parts Tryz.infoToken
  have hle0 := afterTo_le s 0 (by omega)
  have hq0 : decide ((65536 : Int) < (s.size : Int)) = false := by simp; omega
  go_enter Tryz.func6, Tryz.ntmps6
  go_wp2_with fail
  refine (after_calls s 0 _ (by omega) (by omega)).mono ?_
  rintro e w' ⟨rfl, rfl⟩
  go_wp2_with fail
  go_loopw [4, 5] (fun v i wr => ∃ (k n : Nat) (acc : List Tok) (ao : Option Addr) (cp : Nat), k ≤ s.size ∧ n ≤ 16383 ∧ i = .int .i64 k ∧ v = .slice ao n cp ∧ Hid (acc.length = n) ∧ Hid (scanFrom s k acc = scanFrom s (afterTo s 0) []) ∧ Hid (wr.ownsRow (w.heap.size + 1) 39 4 v n (toksCells acc)) ∧ wr.cell? ⟨w.heap.size, 0, none⟩ = some (.int .i64 0) ∧ wr.cell? ⟨w.heap.size, 1, none⟩ = some (.int .i64 0) ∧ wr.frozen? ⟨w.heap.size, 0, none⟩ = false ∧ wr.frozen? ⟨w.heap.size, 1, none⟩ = false ∧ w.heap.size < wr.heap.size ∧ Hid (Below w.heap.size w wr)) (fun _ i _ => s.size - (intOf i).toNat)
  case atStart => exact ⟨afterTo s 0, 0, [], none, 0, hle0, by simp, rfl, rfl, rfl, rfl, World.ownsRow_nil _ _ _ _, by simp, by simp, by simp, by simp, by simp, (Below.refl _ _).alloc (Nat.le_refl _) _⟩
  case round =>
    obtain ⟨k, n, acc, ao, cp, hk, hn, rfl, rfl, HN, HS, HO, hc0, hc1, hf0, hf1, hsz, HBl⟩ := hrel
    by_cases hlt : k < s.size
    · obtain ⟨kd, tx, nt, pl, er, hT⟩ : ∃ kd tx nt pl er, tokenOf s k = (⟨kd, tx, nt, pl⟩, er) := ⟨_, _, _, _, _, rfl⟩
      have HC := token_calls s k wr (by omega) hlt
      rw [hT] at HC
      simp only [tokVal] at HC
      have HT : Hid _ := hT
      clear hT
      go_wp2_with fail
      refine HC.mono ?_
      rintro e w1 ⟨rfl, hgr⟩
      clear HC
      have hb1 := hgr.below
      have hc0' : w1.cell? ⟨w.heap.size, 0, none⟩ = some (.int .i64 0) := (hb1.cell (p := ⟨w.heap.size, 0, none⟩) hsz).trans hc0
      have hc1' : w1.cell? ⟨w.heap.size, 1, none⟩ = some (.int .i64 0) := (hb1.cell (p := ⟨w.heap.size, 1, none⟩) hsz).trans hc1
      have hf0' : w1.frozen? ⟨w.heap.size, 0, none⟩ = false := (hb1.frozen (p := ⟨w.heap.size, 0, none⟩) hsz).trans hf0
      have hf1' : w1.frozen? ⟨w.heap.size, 1, none⟩ = false := (hb1.frozen (p := ⟨w.heap.size, 1, none⟩) hsz).trans hf1
      have hsz' : w.heap.size < w1.heap.size := by have := hb1.size; omega
      have HB1 : Hid (Below w.heap.size w w1) := HBl.out.trans (hb1.mono (by omega))
      have HO1 : Hid (w1.ownsRow (w.heap.size + 1) 39 4 (.slice ao n cp) n (toksCells acc)) := by
        obtain ⟨n1, os1, rfl⟩ := hgr
        exact later_ownsRow HO.out n1 os1
      clear hgr hb1 hc0 hc1 hf0 hf1 hsz HBl HO
      by_cases her : er = 0
      · subst her
        by_cases hfull : n ≤ 16382
        · have hq : decide ((16384 : Int) ≤ (n : Int) + 1) = false := by simp; omega
          have HF : Hid _ := hfull
          clear hfull
          have HOW : Hid _ := (HO1.out.alloc (.cells #[.int .u8 kd, .string tx, .int .i64 nt, .int .i64 pl] 39)).alloc (.cells #[.int .u8 kd, .string tx, .int .i64 nt, .int .i64 pl] 39)
          go_wp2_with (at_builtin; refine wpList_append_lies _ rfl _ _ 23 rfl (w.heap.size + 1) 39 i0 _ 4 40 Tryz.underlying23 hi hz0 hz1 hz2 rfl (by decide) _ _ _ rfl HOW.out ⟨w1.heap.size + 1, 0, none⟩ 1 1 (tokCells ⟨kd, tx, nt, pl⟩) rfl rfl ?c1 ?c2 (by decide) ?c3 ?c4 ?c5 _ rfl ?_)
          case c1 =>
            intro j u hj
            have e0 : ((⟨w1.heap.size + 1, 0, none⟩ : Addr).add j) = ⟨w1.heap.size + 1, j, none⟩ := by simp [Addr.add]; exact fun h => h.symm
            rw [e0, World.cell?_alloc_at _ _ _ _ (by simp)]
            simpa [tokCells] using hj
          case c2 =>
            intro u hu
            simp only [tokCells, List.mem_cons, List.not_mem_nil, or_false] at hu
            rcases hu with rfl | rfl | rfl | rfl <;> rfl
          case c3 => unfold maxLen; omega
          case c4 => omega
          case c5 => simp; omega
          · intro g cap w2 hown2 hgrow hat hlt2
            have R := grown_keep HB1.out HO1.out hgrow hsz'
            rw [hc0', hc1', hf0', hf1'] at R
            obtain ⟨R1, R2, R3, R4, R5, R6, R7⟩ := R
            have HR7 : Hid _ := R7
            have HO2 : Hid _ := hown2
            have htok := tok_size hlt (by rw [HT.out])
            rw [HT.out] at htok
            obtain ⟨ht1, ht2, -⟩ := htok
            have ha := after_calls s (k + tx.size) w2 (by omega) ht2
            rw [show ((k + tx.size : Nat) : Int) = (k : Int) + (tx.size : Int) from by omega] at ha
            have hle := afterTo_le s (k + tx.size) ht2
            have hge := afterTo_ge s (k + tx.size)
            clear R7 hown2 hgrow hat hc0' hc1' hf0' hf1' HB1 HO1 HOW hsz'
            go_wp2_with fail
            refine ha.mono ?_
            rintro e w' ⟨rfl, rfl⟩
            clear ha
            go_wp2_with fail
            go_roundw
            case rel => exact ⟨afterTo s (k + tx.size), n + 1, acc ++ [⟨kd, tx, nt, pl⟩], _, _, hle, by have := HF.out; omega, rfl, rfl, by simp [Hid, HN.out], by
              have := scan_step (acc := acc) hlt (by rw [HT.out]) (by rw [HN.out]; have := HF.out; omega)
              rw [HT.out] at this
              rw [Hid, ← HS.out]
              exact this, by rw [Hid, toksCells_snoc]; exact HO2.out, R1, R2, R3, R4, R6, HR7.out⟩
            case measure => simp [intOf]; omega
        · have hq : decide ((16384 : Int) ≤ (n : Int) + 1) = true := by simp; omega
          have HF : Hid (16382 < n) := by rw [Hid]; omega
          clear hfull
          have HE : Hid (lexOf s = ([], k, 6)) := by rw [Hid, HL.out, ← HS.out]; exact scan_full hlt (by rw [HT.out]) (by rw [HN.out]; have := HF.out; omega)
          go_wp2_with fail
          refine bodyPost_ret (by simp [results, Tryz.results6, go_sem, *]; try rfl) rfl ?_
          rw [HE.out]
          exact ⟨_, rfl, World.ownsRow_nil _ _ _ _, ((HB1.out.setCell (p := ⟨w.heap.size, 0, none⟩) (Nat.le_refl _) _).setCell (p := ⟨w.heap.size, 1, none⟩) (Nat.le_refl _) _).alloc (by simp; omega) _⟩
      · have HE : Hid (lexOf s = ([], k, er)) := by rw [Hid, HL.out, ← HS.out, scan_wrong hlt (by rw [HT.out]; exact her), HT.out]
        have her1 : (er == 0) = false := beq_false_of_ne her
        have her2 : (er != 0) = true := by simpa using her
        clear her hn
        go_wp2_with fail
        refine bodyPost_ret (by simp [results, Tryz.results6, go_sem, *]; try rfl) rfl ?_
        rw [HE.out]
        exact ⟨_, rfl, World.ownsRow_nil _ _ _ _, ((HB1.out.setCell (p := ⟨w.heap.size, 0, none⟩) (Nat.le_refl _) _).setCell (p := ⟨w.heap.size, 1, none⟩) (Nat.le_refl _) _).alloc (by simp; omega) _⟩
    · have HE : Hid (lexOf s = (acc ++ [⟨0, ⟨#[]⟩, 0, s.size⟩], 0, 0)) := by rw [Hid, HL.out, ← HS.out, scan_end hlt]
      have HOW : Hid _ := HO.out.alloc (.cells #[.int .u8 0, .string ⟨#[]⟩, .int .i64 0, .int .i64 s.size] 39)
      go_wp2_with (at_builtin; refine wpList_append_lies _ rfl _ _ 23 rfl (w.heap.size + 1) 39 i0 _ 4 40 Tryz.underlying23 hi hz0 hz1 hz2 rfl (by decide) _ _ _ rfl HOW.out ⟨wr.heap.size, 0, none⟩ 1 1 (tokCells ⟨0, ⟨#[]⟩, 0, s.size⟩) rfl rfl ?d1 ?d2 (by decide) ?d3 ?d4 ?d5 _ rfl ?_)
      case d1 =>
        intro j u hj
        have e0 : ((⟨wr.heap.size, 0, none⟩ : Addr).add j) = ⟨wr.heap.size, j, none⟩ := by simp [Addr.add]; exact fun h => h.symm
        rw [e0, World.cell?_alloc_at _ _ _ _ (by simp)]
        simpa [tokCells] using hj
      case d2 =>
        intro u hu
        simp only [tokCells, List.mem_cons, List.not_mem_nil, or_false] at hu
        rcases hu with rfl | rfl | rfl | rfl <;> rfl
      case d3 => unfold maxLen; omega
      case d4 => omega
      case d5 => simp; omega
      · intro g cap w2 hown2 hgrow hat hlt2
        have R := grown_keep1 HBl.out HO.out hgrow hsz
        rw [hc0, hc1, hf0, hf1] at R
        obtain ⟨R1, R2, R3, R4, R6, R7⟩ := R
        have HR7 : Hid _ := R7
        have HO2 : Hid _ := hown2
        clear R7 hown2 hgrow hat hc0 hc1 hf0 hf1 HBl HO HOW hsz
        go_wp2_with fail
        refine bodyPost_ret (by simp [results, Tryz.results6, go_sem, *]; try rfl) rfl ?_
        rw [HE.out]
        refine ⟨_, rfl, ?_, ?_⟩
        · have h3 := (ownsRow_setCell_below (ownsRow_setCell_below HO2.out (a := ⟨w.heap.size, 0, none⟩) (by simp) (.int .i64 0)) (a := ⟨w.heap.size, 1, none⟩) (by simp) (.int .i64 0)).mono (show w.heap.size ≤ w.heap.size + 1 by omega)
          rw [toksCells_snoc, List.length_append, HN.out]
          exact h3
        · exact (HR7.out.setCell (p := ⟨w.heap.size, 0, none⟩) (Nat.le_refl _) _).setCell (p := ⟨w.heap.size, 1, none⟩) (Nat.le_refl _) _
set_option maxHeartbeats 3200000 in
theorem tokens_long (s : ByteArray) (w : World) (hs : 65536 < s.size) (hm : s.size ≤ 1048576) :
    Calls Tryz.prog 6 #[.string s] w fun e w' => ∃ v, e = .returned (.tuple #[v, .agg #[.int .i64 (lexOf s).2.1, .int .i64 (lexOf s).2.2]]) ∧ w'.ownsRow w.heap.size 39 4 v (lexOf s).1.length (toksCells (lexOf s).1) ∧ Below w.heap.size w w' := by
  have HE : Hid (lexOf s = ([], 65536, 4)) := by rw [Hid, lexOf, if_pos hs]
  have hq0 : decide ((65536 : Int) < (s.size : Int)) = true := by simp; omega
  clear hs
  go_enter Tryz.func6, Tryz.ntmps6
  go_wp2_with fail
  refine bodyPost_ret (by simp [results, Tryz.results6, go_sem, *]; try rfl) rfl ?_
  rw [HE.out]
  exact ⟨_, rfl, World.ownsRow_nil _ _ _ _, (Below.refl _ _).alloc (Nat.le_refl _) _⟩
theorem tokens_any (s : ByteArray) (w : World) (hm : s.size ≤ 1048576) :
    Calls Tryz.prog 6 #[.string s] w fun e w' => ∃ v, e = .returned (.tuple #[v, .agg #[.int .i64 (lexOf s).2.1, .int .i64 (lexOf s).2.2]]) ∧ w'.ownsRow w.heap.size 39 4 v (lexOf s).1.length (toksCells (lexOf s).1) ∧ Below w.heap.size w w' := by
  by_cases hs : s.size ≤ 65536
  · exact tokens_calls s w hs
  · exact tokens_long s w (by omega) hm
end Go.Proofs.YtcgfpoaacalfbaaGreatDoor
