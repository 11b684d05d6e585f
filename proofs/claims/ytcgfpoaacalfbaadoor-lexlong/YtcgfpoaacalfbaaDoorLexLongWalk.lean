/- The statement LexLong: the text is made byte by byte. -/
import Derived.Test.YtcgfpoaacalfbaaDoorLexRepPlain
import Derived.Test.YtcgfpoaacalfbaaDoorLexAlive
import Derived.Test.YtcgfpoaacalfbaaDoorLexTold
import Derived.Laws.IdiomStrings
namespace Go.Proofs.YtcgfpoaacalfbaaDoor.lexLong
open Go.RowKit
attribute [local go_sem] later_size later_cell later_frozen later_setCell later_drew later_drewN later_tape drewN_setCell drewN_alloc drewN_later later_later lt_more lt_more1 lt_more2 lt_more3 lt_more4 lk0_0_1 lk1_0_1 lk2_0_1 lk0_0_2 lk1_0_2 lk2_0_2 lk0_1_2 lk0_0_3 lk1_0_3 lk2_0_3 lk0_1_3 lk0_2_3 lk0_0_4 lk1_0_4 lk2_0_4 lk0_1_4 lk0_2_4 lk0_3_4 lk0_0_5 lk1_0_5 lk2_0_5 lk0_1_5 lk0_2_5 lk0_3_5 lk0_4_5 lk0_0_6 lk1_0_6 lk2_0_6 lk0_1_6 lk0_2_6 lk0_3_6 lk0_4_6 lk0_5_6 lk0_0_7 lk1_0_7 lk2_0_7 lk0_1_7 lk0_2_7 lk0_3_7 lk0_4_7 lk0_5_7 lk0_6_7
theorem Tryd.infoByte : (Tryd.prog.info? 5).map (fun i => (i.zero, i.size, i.bytes)) = some (some (.int .u8 0), 1, 1) := by kernel_rfl
/-- The cells of a text that is made of the byte c as far as k. -/
def part (n k : Nat) (c : Int) : List Value := (List.range n).map fun j => .int .u8 (if j < k then c else 0)
theorem part_zero (n : Nat) (c : Int) : part n 0 c = List.replicate n (.int .u8 0) := by
  unfold part
  apply List.ext_getElem?
  intro j
  by_cases hj : j < n <;> simp [hj]
theorem part_set (n k : Nat) (c : Int) : (part n k c).set k (.int .u8 c) = part n (k + 1) c := by
  unfold part
  apply List.ext_getElem?
  intro j
  by_cases hj : j < n
  · by_cases e : j = k
    · subst e; simp [hj]
    · have : (j < k + 1) ↔ j < k := by omega
      simp [hj, this, Ne.symm e]
  · simp [hj]
theorem part_at {n k j : Nat} (c : Int) (h : j < k) (hn : j < n) : (part n k c)[j]? = some (.int .u8 c) := by
  unfold part
  simp [hn, h]
set_option maxRecDepth 100000 in
set_option maxHeartbeats 3200000 in
theorem tokens_way (a : Int) (w : World) (h1 : -128 ≤ a) (h2 : a ≤ 127) (hg : w.cell? ⟨0, 0, none⟩ = some (.iface 84 (.agg #[.pointer (some ⟨7, 31, none⟩)]))) (hr : RangeVar w) :
    Calls Tryd.prog 4 #[.int .i8 a, .bool true] w fun e w' => e = .returned (.bool true) ∧ Below w.heap.size w w' := by
  have HR : Hid (RangeVar w) := hr
  clear hr
  obtain ⟨i0, hi, hz0, hz1, hz2⟩ := info_parts Tryd.infoByte
  have hlt0 : 0 < w.heap.size := by
    rcases Nat.eq_zero_or_pos w.heap.size with h | h
    · simp [World.cell?, h] at hg
    · exact h
  obtain ⟨n, hn⟩ : ∃ n : Nat, (n : Int) = 16383 + a := ⟨(16383 + a).toNat, by omega⟩
  go_enter Tryd.func4, Tryd.ntmps4
  go_wp2_with (at_make; refine wpList_make_full _ rfl _ _ 28 rfl w.heap.size 5 i0 (.int .u8 0) 1 Tryd.underlying28 hi hz0 hz1 .i64 .i64 (16383 + a) (16383 + a) n rfl rfl hn.symm hn.symm (by rw [hz2]; omega) (by unfold maxLen; omega) (Nat.le_refl _) ?_)
  intro w1 ho1 hg1
  have HO1 : Hid (w1.ownsRow w.heap.size 5 1 (.slice (some ⟨w.heap.size, 0, none⟩) n n) n (part n 0 59)) := by
    rw [Hid, part_zero]
    simpa [toList_madeCells_one] using ho1
  have hsz1 : w.heap.size < w1.heap.size := by
    obtain ⟨g, cap, e, _, hlt⟩ := ho1.form (by omega)
    simp at e
    omega
  have HB1 : Hid (Below w.heap.size w w1) := ⟨hg1.os, hg1.tape, hg1.output, hg1.size, fun k hk => hg1.block k hk (by simp)⟩
  clear ho1 hg1
  rw [← hn]
  have HN : Hid ((n : Int) = 16383 + a) := hn
  have hnb : n ≤ 16510 := by omega
  clear hn
  go_wp2_with fail
  go_loopw [7] (fun i wr => ∃ k : Nat, k ≤ n ∧ i = .int .i64 k ∧ Hid (wr.ownsRow w.heap.size 5 1 (.slice (some ⟨w.heap.size, 0, none⟩) n n) n (part n k 59)) ∧ w.heap.size < wr.heap.size ∧ Hid (Below w.heap.size w wr)) (fun i _ => n - (intOf i).toNat)
  case atStart => exact ⟨0, Nat.zero_le _, rfl, HO1, hsz1, HB1⟩
  case round =>
    obtain ⟨k, hk, rfl, HO, hsz, HB⟩ := hrel
    clear HO1 hsz1 HB1
    by_cases hlt : k < n
    · have hc : wr.cell? ⟨w.heap.size, k, none⟩ = some (.int .u8 0) := by
        rw [HO.out.cellAt k (by omega)]
        unfold part
        simp [hlt]
      have hf := HO.out.frozenAt k
      have hst := HO.out.stored k (.int .u8 59)
      rw [part_set] at hst
      have HS : Hid ((wr.setCell ⟨w.heap.size, k, none⟩ (.int .u8 59)).ownsRow w.heap.size 5 1 (.slice (some ⟨w.heap.size, 0, none⟩) n n) n (part n (k + 1) 59)) := hst.1
      clear hst
      go_wp2_with fail
      go_roundw
      case rel => exact ⟨k + 1, by omega, by go_num, HS, by simpa using hsz, HB.out.setCell (p := ⟨w.heap.size, k, none⟩) (Nat.le_refl _) _⟩
      case measure => simp [intOf]; omega
    · obtain rfl : k = n := by omega
      have hconv : (convert 28 9 (.slice (some ⟨w.heap.size, 0, none⟩) k k)).run Tryd.prog wr = .ok (.string (rep k 59)) wr := by
        have h := run_convert_bytes_back (P := Tryd.prog) wr 28 9 5 ⟨w.heap.size, 0, none⟩ k (List.replicate k 59) Tryd.underlying28 Tryd.underlying5 Tryd.underlying9 (fun j hj => by
          have hj2 : j < k := by simpa using hj
          have e0 : ((⟨w.heap.size, 0, none⟩ : Addr).add j) = ⟨w.heap.size, j, none⟩ := by simp [Addr.add]; exact fun h => h.symm
          rw [e0, HO.out.cellAt j (by omega), part_at 59 hj2 hj2]
          simp)
        rw [List.length_replicate] at h
        exact h
      have HC := lexTokens_calls (rep k 59) wr (by rw [rep_size]; omega) (RangeVar.below HR.out HB.out)
      have hg0 : ∀ W, Below w.heap.size w W → W.cell? ⟨0, 0, none⟩ = some (.iface 84 (.agg #[.pointer (some ⟨7, 31, none⟩)])) := fun W hW => (hW.cell (p := ⟨0, 0, none⟩) hlt0).trans hg
      clear HO hsz
      by_cases ha : 0 < a
      · rw [lex_semi_many (by have := HN.out; omega) (by omega)] at HC
        simp only [List.length_nil] at HC
        rw [if_neg (by decide)] at HC
        go_wp2_with fail
        refine HC.mono ?_
        rintro e w2 ⟨v, rfl, ho, hb2⟩
        obtain ⟨ao, c, rfl⟩ : ∃ ao c, v = .slice ao 0 c := by
          rcases ho.2 with ⟨rfl, _⟩ | ⟨g, cap, cur, rfl, _⟩
          · exact ⟨_, _, rfl⟩
          · exact ⟨_, _, rfl⟩
        have HB2 : Hid (Below w.heap.size w w2) := HB.out.trans (hb2.mono HB.out.size)
        clear HC ho hb2 hconv HB
        have CT := told_wrong 16383 6 w2 (by decide) (hg0 w2 HB2.out)
        simp only [wrongVal]
        go_wp2_with fail
        refine CT.mono ?_
        rintro e w3 ⟨rfl, hb3⟩
        have HB3 : Hid (Below w.heap.size w w3) := HB2.out.trans (hb3.mono HB2.out.size)
        clear CT hb3 HB2
        go_wp2_with fail
        refine (alive_calls _ (RangeVar.below HR.out HB3.out)).mono ?_
        rintro e w4 ⟨rfl, hb4⟩
        have HB4 : Hid (Below w.heap.size w w4) := HB3.out.trans (hb4.mono HB3.out.size)
        clear hb4 HB3
        go_wp2
        go_returns
        exact ⟨rfl, HB4.out⟩
      · obtain ⟨l, hl, hll⟩ := lex_semi_few (n := k) (by have := HN.out; omega)
        rw [hl] at HC
        simp only [if_pos] at HC
        go_wp2_with fail
        refine HC.mono ?_
        rintro e w2 ⟨v, rfl, ho, hb2⟩
        have hk2 : k < (l ++ [(⟨0, ⟨#[]⟩, 0, k⟩ : Tok)]).length := by simp; omega
        obtain ⟨g, cap, rfl, _, _⟩ := ho.form (by omega)
        obtain ⟨c0, c1, c2, c3⟩ := own_cells ho hk2
        have hlast : (l ++ [(⟨0, ⟨#[]⟩, 0, k⟩ : Tok)])[k]'hk2 = ⟨0, ⟨#[]⟩, 0, k⟩ := by
          rw [List.getElem_append_right (by omega)]
          simp [hll]
        rw [hlast] at c0 c1 c2 c3
        have hlen : (l ++ [(⟨0, ⟨#[]⟩, 0, k⟩ : Tok)]).length = k + 1 := by simp [hll]
        rw [hlen]
        have HB2 : Hid (Below w.heap.size w w2) := HB.out.trans (hb2.mono HB.out.size)
        clear HC ho hb2 hconv HB hlast hlen hk2 hl hll
        have ha2 : decide (0 < a) = false := by simpa using ha
        go_wp2_with fail
        clear c0 c1 c2 c3
        refine (alive_calls _ (RangeVar.below HR.out HB2.out)).mono ?_
        rintro e w4 ⟨rfl, hb4⟩
        have HB4 : Hid (Below w.heap.size w w4) := HB2.out.trans (hb4.mono HB2.out.size)
        clear hb4 HB2
        go_wp2
        go_returns
        exact ⟨rfl, HB4.out⟩
set_option maxRecDepth 100000 in
set_option maxHeartbeats 3200000 in
theorem blanks_way (a : Int) (w : World) (h1 : -128 ≤ a) (h2 : a ≤ 127) (hg : w.cell? ⟨0, 0, none⟩ = some (.iface 84 (.agg #[.pointer (some ⟨7, 31, none⟩)]))) (hr : RangeVar w) :
    Calls Tryd.prog 4 #[.int .i8 a, .bool false] w fun e w' => e = .returned (.bool true) ∧ Below w.heap.size w w' := by
  have HR : Hid (RangeVar w) := hr
  clear hr
  obtain ⟨i0, hi, hz0, hz1, hz2⟩ := info_parts Tryd.infoByte
  have hlt0 : 0 < w.heap.size := by
    rcases Nat.eq_zero_or_pos w.heap.size with h | h
    · simp [World.cell?, h] at hg
    · exact h
  obtain ⟨n, hn⟩ : ∃ n : Nat, (n : Int) = 65536 + a := ⟨(65536 + a).toNat, by omega⟩
  go_enter Tryd.func4, Tryd.ntmps4
  go_wp2_with (at_make; refine wpList_make_full _ rfl _ _ 28 rfl w.heap.size 5 i0 (.int .u8 0) 1 Tryd.underlying28 hi hz0 hz1 .i64 .i64 (65536 + a) (65536 + a) n rfl rfl hn.symm hn.symm (by rw [hz2]; omega) (by unfold maxLen; omega) (Nat.le_refl _) ?_)
  intro w1 ho1 hg1
  have HO1 : Hid (w1.ownsRow w.heap.size 5 1 (.slice (some ⟨w.heap.size, 0, none⟩) n n) n (part n 0 32)) := by
    rw [Hid, part_zero]
    simpa [toList_madeCells_one] using ho1
  have hsz1 : w.heap.size < w1.heap.size := by
    obtain ⟨g, cap, e, _, hlt⟩ := ho1.form (by omega)
    simp at e
    omega
  have HB1 : Hid (Below w.heap.size w w1) := ⟨hg1.os, hg1.tape, hg1.output, hg1.size, fun k hk => hg1.block k hk (by simp)⟩
  clear ho1 hg1
  rw [← hn]
  have HN : Hid ((n : Int) = 65536 + a) := hn
  have hnb : n ≤ 65663 := by omega
  clear hn
  go_wp2_with fail
  go_loopw [12] (fun i wr => ∃ k : Nat, k ≤ n ∧ i = .int .i64 k ∧ Hid (wr.ownsRow w.heap.size 5 1 (.slice (some ⟨w.heap.size, 0, none⟩) n n) n (part n k 32)) ∧ w.heap.size < wr.heap.size ∧ Hid (Below w.heap.size w wr)) (fun i _ => n - (intOf i).toNat)
  case atStart => exact ⟨0, Nat.zero_le _, rfl, HO1, hsz1, HB1⟩
  case round =>
    obtain ⟨k, hk, rfl, HO, hsz, HB⟩ := hrel
    clear HO1 hsz1 HB1
    by_cases hlt : k < n
    · have hc : wr.cell? ⟨w.heap.size, k, none⟩ = some (.int .u8 0) := by
        rw [HO.out.cellAt k (by omega)]
        unfold part
        simp [hlt]
      have hf := HO.out.frozenAt k
      have hst := HO.out.stored k (.int .u8 32)
      rw [part_set] at hst
      have HS : Hid ((wr.setCell ⟨w.heap.size, k, none⟩ (.int .u8 32)).ownsRow w.heap.size 5 1 (.slice (some ⟨w.heap.size, 0, none⟩) n n) n (part n (k + 1) 32)) := hst.1
      clear hst
      go_wp2_with fail
      go_roundw
      case rel => exact ⟨k + 1, by omega, by go_num, HS, by simpa using hsz, HB.out.setCell (p := ⟨w.heap.size, k, none⟩) (Nat.le_refl _) _⟩
      case measure => simp [intOf]; omega
    · obtain rfl : k = n := by omega
      have hconv : (convert 28 9 (.slice (some ⟨w.heap.size, 0, none⟩) k k)).run Tryd.prog wr = .ok (.string (rep k 32)) wr := by
        have h := run_convert_bytes_back (P := Tryd.prog) wr 28 9 5 ⟨w.heap.size, 0, none⟩ k (List.replicate k 32) Tryd.underlying28 Tryd.underlying5 Tryd.underlying9 (fun j hj => by
          have hj2 : j < k := by simpa using hj
          have e0 : ((⟨w.heap.size, 0, none⟩ : Addr).add j) = ⟨w.heap.size, j, none⟩ := by simp [Addr.add]; exact fun h => h.symm
          rw [e0, HO.out.cellAt j (by omega), part_at 32 hj2 hj2]
          simp)
        rw [List.length_replicate] at h
        exact h
      have HC := lexTokens_calls (rep k 32) wr (by rw [rep_size]; omega) (RangeVar.below HR.out HB.out)
      have hg0 : ∀ W, Below w.heap.size w W → W.cell? ⟨0, 0, none⟩ = some (.iface 84 (.agg #[.pointer (some ⟨7, 31, none⟩)])) := fun W hW => (hW.cell (p := ⟨0, 0, none⟩) hlt0).trans hg
      clear HO hsz
      by_cases ha : 0 < a
      · rw [lex_long (by rw [rep_size]; have := HN.out; omega)] at HC
        simp only [List.length_nil] at HC
        rw [if_neg (by decide)] at HC
        go_wp2_with fail
        refine HC.mono ?_
        rintro e w2 ⟨v, rfl, ho, hb2⟩
        obtain ⟨ao, c, rfl⟩ : ∃ ao c, v = .slice ao 0 c := by
          rcases ho.2 with ⟨rfl, _⟩ | ⟨g, cap, cur, rfl, _⟩
          · exact ⟨_, _, rfl⟩
          · exact ⟨_, _, rfl⟩
        have HB2 : Hid (Below w.heap.size w w2) := HB.out.trans (hb2.mono HB.out.size)
        clear HC ho hb2 hconv HB
        have CT := told_wrong 65536 4 w2 (by decide) (hg0 w2 HB2.out)
        simp only [wrongVal]
        go_wp2_with fail
        refine CT.mono ?_
        rintro e w3 ⟨rfl, hb3⟩
        have HB3 : Hid (Below w.heap.size w w3) := HB2.out.trans (hb3.mono HB2.out.size)
        clear CT hb3 HB2
        go_wp2_with fail
        refine (alive_calls _ (RangeVar.below HR.out HB3.out)).mono ?_
        rintro e w4 ⟨rfl, hb4⟩
        have HB4 : Hid (Below w.heap.size w w4) := HB3.out.trans (hb4.mono HB3.out.size)
        clear hb4 HB3
        go_wp2
        go_returns
        exact ⟨rfl, HB4.out⟩
      · obtain ⟨l, hl, hll⟩ : ∃ l, lexOf (rep k 32) = (l ++ [(⟨0, ⟨#[]⟩, 0, k⟩ : Tok)], 0, 0) ∧ l.length = 0 := ⟨[], lex_blank_few (by have := HN.out; omega), rfl⟩
        rw [hl] at HC
        simp only [if_pos] at HC
        go_wp2_with fail
        refine HC.mono ?_
        rintro e w2 ⟨v, rfl, ho, hb2⟩
        have hk2 : 0 < (l ++ [(⟨0, ⟨#[]⟩, 0, k⟩ : Tok)]).length := by simp
        obtain ⟨g, cap, rfl, _, _⟩ := ho.form (by omega)
        obtain ⟨c0, c1, c2, c3⟩ := own_cells ho hk2
        have hlast : (l ++ [(⟨0, ⟨#[]⟩, 0, k⟩ : Tok)])[0]'hk2 = ⟨0, ⟨#[]⟩, 0, k⟩ := by
          rw [List.getElem_append_right (by omega)]
          simp [hll]
        rw [hlast] at c0 c1 c2 c3
        have hlen : (l ++ [(⟨0, ⟨#[]⟩, 0, k⟩ : Tok)]).length = 1 := by simp [hll]
        rw [hlen]
        have HB2 : Hid (Below w.heap.size w w2) := HB.out.trans (hb2.mono HB.out.size)
        clear HC ho hb2 hconv HB hlast hlen hk2 hl hll
        have ha2 : decide (0 < a) = false := by simpa using ha
        go_wp2_with fail
        clear c0 c1 c2 c3
        refine (alive_calls _ (RangeVar.below HR.out HB2.out)).mono ?_
        rintro e w4 ⟨rfl, hb4⟩
        have HB4 : Hid (Below w.heap.size w w4) := HB2.out.trans (hb4.mono HB2.out.size)
        clear hb4 HB2
        go_wp2
        go_returns
        exact ⟨rfl, HB4.out⟩
end Go.Proofs.YtcgfpoaacalfbaaDoor.lexLong
