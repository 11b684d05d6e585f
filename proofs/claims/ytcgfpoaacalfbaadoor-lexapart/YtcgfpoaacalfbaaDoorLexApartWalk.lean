/- The statement LexApart, where the source has tokens. -/
import Derived.Test.YtcgfpoaacalfbaaDoorLexBlanks
import Derived.Deep.QuietTactic
import Derived.BigQuiet
import Derived.Deep.RegionHeld3
namespace Go.Proofs.YtcgfpoaacalfbaaDoor.lexApart
open Go.RowKit
attribute [local go_sem] later_size later_cell later_frozen later_setCell later_drew later_drewN later_tape drewN_setCell drewN_alloc drewN_later later_later lt_more lt_more1 lt_more2 lt_more3 lt_more4 lk0_0_1 lk1_0_1 lk2_0_1 lk0_0_2 lk1_0_2 lk2_0_2 lk0_1_2 lk0_0_3 lk1_0_3 lk2_0_3 lk0_1_3 lk0_2_3 lk0_0_4 lk1_0_4 lk2_0_4 lk0_1_4 lk0_2_4 lk0_3_4 lk0_0_5 lk1_0_5 lk2_0_5 lk0_1_5 lk0_2_5 lk0_3_5 lk0_4_5 lk0_0_6 lk1_0_6 lk2_0_6 lk0_1_6 lk0_2_6 lk0_3_6 lk0_4_6 lk0_5_6 lk0_0_7 lk1_0_7 lk2_0_7 lk0_1_7 lk0_2_7 lk0_3_7 lk0_4_7 lk0_5_7 lk0_6_7
theorem lex_within {s : ByteArray} {l : List Tok} {k : Nat} (h : lexOf s = (l, k, 0)) : ∀ t ∈ l, t.place + t.text.size ≤ s.size ∧ s.extract t.place (t.place + t.text.size) = t.text := by
  obtain ⟨m, rfl, hm, _⟩ := lex_toks h
  intro t ht
  rw [List.mem_append, List.mem_singleton] at ht
  rcases ht with ht | rfl
  · obtain ⟨h1, h2⟩ := hm t ht
    have h3 := tok_size h1 (by rw [h2])
    have h4 := tok_text h1 (by rw [h2])
    rw [h2] at h3 h4
    exact ⟨h3.2.1, h4⟩
  · refine ⟨Nat.le_refl _, ?_⟩
    apply ba_ext
    apply List.eq_nil_of_length_eq_zero
    rw [size_list, ByteArray.size_extract]
    show min (s.size + 0) s.size - s.size = 0
    omega
theorem lex_len1 {s : ByteArray} {l : List Tok} {k : Nat} (h : lexOf s = (l, k, 0)) : 1 ≤ l.length ∧ l.length ≤ s.size + 1 ∧ ∀ t ∈ l, t.text.size ≤ 32 := by
  obtain ⟨m, rfl, hm, hl⟩ := lex_toks h
  refine ⟨by simp, by simp; omega, fun t ht => ?_⟩
  rw [List.mem_append, List.mem_singleton] at ht
  rcases ht with ht | rfl
  · obtain ⟨h1, h2⟩ := hm t ht
    have := tok_short h1 (by rw [h2])
    rw [h2] at this
    exact this
  · show 0 ≤ 32
    omega
/-- Which number names the blanks ahead of token k. -/
def sel (gl : Nat) (zs : Nat → Int) (k : Nat) : Int := if k < gl then zs k else (k : Int) % 256
theorem append_list (a b : ByteArray) : (a ++ b).data.toList = a.data.toList ++ b.data.toList := by
  rw [ByteArray.data_append, Array.toList_append]
set_option maxRecDepth 100000 in
set_option maxHeartbeats 6400000 in
theorem spread_way (s : ByteArray) (ga : Option Addr) (gl gc gb go : Nat) (zs : Nat → Int) (w : World) (hs : s.size ≤ 1024) (l : List Tok) (kk : Nat) (hl : lexOf s = (l, kk, 0))
    (hga : 0 < gl → ga = some ⟨gb, go, none⟩) (hgb : 0 < gl → gb < w.heap.size) (hG : ∀ j, j < gl → w.cell? ⟨gb, go + j, none⟩ = some (.int .u8 (zs j))) (hz : ∀ j, 0 ≤ zs j ∧ zs j ≤ 255) (hr : RangeVar w) :
    Calls Tryd.prog 5 #[.string s, .slice ga gl gc] w fun e w' => e = .returned (.bool true) ∧ Below w.heap.size w w' := by
  have hq : decide ((1024 : Int) < (s.size : Int)) = false := by simp; omega
  have CA := lexTokens_calls s w (by omega) hr
  have HR : Hid (RangeVar w) := hr
  clear hr
  rw [hl] at CA
  simp only [if_pos] at CA
  have HW : Hid _ := lex_within hl
  obtain ⟨hl1, hl2, hl3⟩ := lex_len1 hl
  have HL3 : Hid _ := hl3
  have HLex : Hid _ := hl
  clear hl hl3
  obtain ⟨n, hn⟩ : ∃ n, n = l.length := ⟨_, rfl⟩
  rw [← hn] at CA hl1 hl2
  have HN : Hid (n = l.length) := hn
  clear hn
  go_enter Tryd.func5, Tryd.ntmps5
  go_wp2_with fail
  refine CA.mono ?_
  rintro e w1 ⟨va, rfl, hoa, hb1⟩
  clear CA
  obtain ⟨g, cap, rfl, hg0, hg1⟩ := hoa.form (by omega)
  have HA1 : Hid (w1.ownsRow w.heap.size 39 4 (.slice (some ⟨g, 0, none⟩) n cap) n (toksCells l)) := hoa
  have HB1 : Hid (Below w.heap.size w w1) := hb1
  clear hoa hb1
  go_wp2_with fail
  go_loopw [7, 8] (fun sv i wr => ∃ (k : Nat) (S : ByteArray), k ≤ n ∧ i = .int .i64 k ∧ sv = .string S ∧ Hid (S.data.toList = spreadTo (fun k => blankOf (sel gl zs k)) l k) ∧ Hid (Below w1.heap.size w1 wr)) (fun _ i _ => n - (intOf i).toNat)
  case atStart => exact ⟨0, ⟨#[]⟩, by omega, rfl, rfl, rfl, Below.refl _ _⟩
  case round =>
    obtain ⟨k, S, hk, rfl, rfl, HS, HBr⟩ := hrel
    by_cases hlt : k < n
    · have hkl : k < l.length := by rw [← HN.out]; exact hlt
      have hown := HA1.out
      rw [HN.out] at hown
      obtain ⟨c0, c1, c2, c3⟩ := own_cells hown hkl
      clear hown
      have hwi := HW.out l[k] (List.getElem_mem _)
      have hsm := HL3.out l[k] (List.getElem_mem _)
      have HT : Hid (l[k]?.map (·.text.data.toList) = some l[k].text.data.toList) := by rw [Hid, List.getElem?_eq_getElem hkl]; rfl
      generalize l[k] = t at c0 c1 c2 c3 hwi hsm HT
      obtain ⟨kd, tx, nt, pl⟩ := t
      simp only at c0 c1 c2 c3 hwi hsm HT
      obtain ⟨hwi1, hwi2⟩ := hwi
      have c1r : wr.cell? ⟨g, k * 4 + 1, none⟩ = some (.string tx) := (HBr.out.cell (p := ⟨g, k * 4 + 1, none⟩) hg1).trans c1
      have c3r : wr.cell? ⟨g, k * 4 + 3, none⟩ = some (.int .i64 pl) := (HBr.out.cell (p := ⟨g, k * 4 + 3, none⟩) hg1).trans c3
      clear c0 c1 c2 c3 hkl
      have q1 : decide ((pl : Int) < 0) = false := by simp
      have q2 : decide ((s.size : Int) < (pl : Int) + (tx.size : Int)) = false := by simp; omega
      have q3 : ((s.extract pl (pl + tx.size)).toList == tx.toList) = true := by rw [hwi2]; simp
      have HQ : Hid _ := hwi2
      clear hwi2
      by_cases hkg : k < gl
      · obtain rfl := hga (by omega)
        have hz1 := hz k
        have hgk : wr.cell? ⟨gb, go + k, none⟩ = some (.int .u8 (zs k)) := ((HBr.out.mono HB1.out.size).cell (p := ⟨gb, go + k, none⟩) (hgb (by omega))).trans (((HB1.out).cell (p := ⟨gb, go + k, none⟩) (hgb (by omega))).trans (hG k hkg))
        have HSel : Hid (sel gl zs k = zs k) := by simp [Hid, sel, hkg]
        obtain ⟨bl, hbl⟩ : ∃ bl : ByteArray, bl = ⟨(blankOf (zs k)).toArray⟩ := ⟨_, rfl⟩
        have CB := fun W => blanks_calls (zs k) W hz1.1 hz1.2
        rw [← hbl] at CB
        have hblen : bl.size ≤ 10 := by
          rw [hbl, ← size_list]
          simpa using (blank_len (blankOf_mem (zs k))).2
        have HBL : Hid (bl.data.toList = blankOf (zs k)) := by rw [Hid, hbl]
        clear hbl
        have hSz : S.size ≤ 60000 := by
          have h1 := spreadTo_len (fun k => blankOf (sel gl zs k)) (fun i => blankOf_mem _) l HL3.out k
          rw [← HS.out, size_list] at h1
          omega
        have a1 : ∀ W, (Op.stringOp .add S bl).run Tryd.prog W = .ok (.string (S ++ bl)) W := fun W => run_string_add_sum W S bl (by omega)
        have a2 : ∀ W, (Op.stringOp .add (S ++ bl) tx).run Tryd.prog W = .ok (.string (S ++ bl ++ tx)) W := fun W => run_string_add_sum W (S ++ bl) tx (by rw [ByteArray.size_append]; omega)
        have hgr : g < wr.heap.size := by have := HBr.out.size; omega
        have i0 : (0 : Int) ≤ (k : Int) := by omega
        have i1 : (k : Int) < (n : Int) := by omega
        go_wp2_with fail
        go_quiet (fail)
        go_wp2_with fail
        go_region_held3 (fun w' => w'.cell? ⟨g, k * 4 + 1, none⟩ = some (.string tx) ∧ g < w'.heap.size) (go_simp) ((go_at_call 15; refine (CB _).mono ?_; rintro e w' ⟨rfl, rfl⟩))
        go_wp2_with fail
        go_roundw
        case rel => exact ⟨k + 1, S ++ bl ++ tx, by omega, by go_num, rfl, by
          rw [Hid, append_list, append_list, HS.out, HBL.out, spreadTo, HT.out, List.append_assoc]
          show _ = spreadTo (fun k => blankOf (sel gl zs k)) l k ++ (blankOf (sel gl zs k) ++ tx.data.toList)
          rw [HSel.out], by
          have h1 := (HBr.out.alloc HBr.out.size blanksObj)
          exact ⟨h1.os, h1.tape, h1.output, h1.size, h1.block⟩⟩
        case measure => simp [intOf]; omega
      · have hkg2 : ¬ (k : Int) < (gl : Int) := by omega
        have HSel : Hid (sel gl zs k = (k : Int) % 256) := by simp [Hid, sel, hkg]
        have hz1 : 0 ≤ (k : Int) % 256 ∧ (k : Int) % 256 ≤ 255 := by omega
        obtain ⟨bl, hbl⟩ : ∃ bl : ByteArray, bl = ⟨(blankOf ((k : Int) % 256)).toArray⟩ := ⟨_, rfl⟩
        have CB := fun W => blanks_calls ((k : Int) % 256) W hz1.1 hz1.2
        rw [← hbl] at CB
        have hblen : bl.size ≤ 10 := by
          rw [hbl, ← size_list]
          simpa using (blank_len (blankOf_mem (((k : Int) % 256)))).2
        have HBL : Hid (bl.data.toList = blankOf ((k : Int) % 256)) := by rw [Hid, hbl]
        clear hbl
        have hSz : S.size ≤ 60000 := by
          have h1 := spreadTo_len (fun k => blankOf (sel gl zs k)) (fun i => blankOf_mem _) l HL3.out k
          rw [← HS.out, size_list] at h1
          omega
        have a1 : ∀ W, (Op.stringOp .add S bl).run Tryd.prog W = .ok (.string (S ++ bl)) W := fun W => run_string_add_sum W S bl (by omega)
        have a2 : ∀ W, (Op.stringOp .add (S ++ bl) tx).run Tryd.prog W = .ok (.string (S ++ bl ++ tx)) W := fun W => run_string_add_sum W (S ++ bl) tx (by rw [ByteArray.size_append]; omega)
        have hgr : g < wr.heap.size := by have := HBr.out.size; omega
        have i0 : (0 : Int) ≤ (k : Int) := by omega
        have i1 : (k : Int) < (n : Int) := by omega
        go_wp2_with fail
        go_quiet (fail)
        go_wp2_with fail
        go_region_held3 (fun w' => w'.cell? ⟨g, k * 4 + 1, none⟩ = some (.string tx) ∧ g < w'.heap.size) (go_simp) ((go_at_call 15; refine (CB _).mono ?_; rintro e w' ⟨rfl, rfl⟩))
        go_wp2_with fail
        go_roundw
        case rel => exact ⟨k + 1, S ++ bl ++ tx, by omega, by go_num, rfl, by
          rw [Hid, append_list, append_list, HS.out, HBL.out, spreadTo, HT.out, List.append_assoc]
          show _ = spreadTo (fun k => blankOf (sel gl zs k)) l k ++ (blankOf (sel gl zs k) ++ tx.data.toList)
          rw [HSel.out], by
          have h1 := (HBr.out.alloc HBr.out.size blanksObj)
          exact ⟨h1.os, h1.tape, h1.output, h1.size, h1.block⟩⟩
        case measure => simp [intOf]; omega
    · obtain rfl : k = n := by omega
      have hSz : S.size ≤ 60000 := by
        have h1 := spreadTo_len (fun k => blankOf (sel gl zs k)) (fun i => blankOf_mem _) l HL3.out k
        rw [← HS.out, size_list] at h1
        omega
      have hS2 : (S ++ ⟨#[10]⟩ : ByteArray).data.toList = spreadTo (fun k => blankOf (sel gl zs k)) l l.length ++ [10] := by
        rw [append_list, HS.out, HN.out]
      obtain ⟨l', e1, e2, e3, e4⟩ := apart HLex.out hs (fun k => blankOf (sel gl zs k)) (fun i => blankOf_mem _) hS2
      have C2 := lexTokens_calls (S ++ ⟨#[10]⟩) wr (by rw [ByteArray.size_append]; show S.size + 1 ≤ _; omega) (RangeVar.below (RangeVar.below HR.out HB1.out) HBr.out)
      rw [e1, e2, ← HN.out] at C2
      simp only [if_pos] at C2
      have HE2 : Hid (l'.length = l.length) := e2
      have HE3 : Hid (∀ i (h1 : i < l'.length) (h2 : i < l.length), Alike l'[i] l[i]) := e3
      have HE4 : Hid (l'.Pairwise (fun a b => a.place < b.place)) := e4
      clear e1 e2 e3 e4 hS2
      have a1 : ∀ W, (Op.stringOp .add S ⟨#[10]⟩).run Tryd.prog W = .ok (.string (S ++ ⟨#[10]⟩)) W := fun W => run_string_add_sum W S ⟨#[10]⟩ (by show S.size + 1 ≤ _; omega)
      go_wp2_with fail
      refine C2.mono ?_
      rintro e w2 ⟨vm, rfl, hom, hb2⟩
      clear C2
      obtain ⟨g2, cap2, rfl, hg20, hg21⟩ := hom.form (by omega)
      have HM : Hid (w2.ownsRow wr.heap.size 39 4 (.slice (some ⟨g2, 0, none⟩) k cap2) k (toksCells l')) := hom
      have HB12 : Hid (Below w1.heap.size w1 w2) := HBr.out.trans (hb2.mono HBr.out.size)
      have HB2 : Hid (Below w.heap.size w w2) := HB1.out.trans (HB12.out.mono HB1.out.size)
      clear hom hb2 a1 HS HBr
      go_wp2_with fail
      go_loopw [12] (fun i w' => ∃ j m : Nat, j ≤ k ∧ i = .int .i64 j ∧ w' = w2.drewN m) (fun i _ => k - (intOf i).toNat)
      case atStart => exact ⟨0, 0, by omega, rfl, rfl⟩
      case round =>
        obtain ⟨j, m, hj, rfl, rfl⟩ := hrel
        by_cases hlt2 : j < k
        · have hj1 : j < l.length := by rw [← HN.out]; exact hlt2
          have hj2 : j < l'.length := by rw [HE2.out]; exact hj1
          have own1 := HA1.out
          rw [HN.out] at own1
          obtain ⟨c0, c1, c2, c3⟩ := own_cells own1 hj1
          have own2 := HM.out
          rw [HN.out, ← HE2.out] at own2
          obtain ⟨d0, d1, d2, d3⟩ := own_cells own2 hj2
          have hal := HE3.out j hj2 hj1
          have hpw := HE4.out
          rw [List.pairwise_iff_getElem] at hpw
          have c0r : w2.cell? ⟨g, j * 4, none⟩ = some (.int .u8 l'[j].kind) := by rw [hal.1]; exact (HB12.out.cell (p := ⟨g, j * 4, none⟩) hg1).trans c0
          have c1r : w2.cell? ⟨g, j * 4 + 1, none⟩ = some (.string l'[j].text) := by rw [hal.2.1]; exact (HB12.out.cell (p := ⟨g, j * 4 + 1, none⟩) hg1).trans c1
          have c2r : w2.cell? ⟨g, j * 4 + 2, none⟩ = some (.int .i64 l'[j].int) := by rw [hal.2.2]; exact (HB12.out.cell (p := ⟨g, j * 4 + 2, none⟩) hg1).trans c2
          clear c0 c1 c2 c3 hal own1
          have i0 : (0 : Int) ≤ (j : Int) := by omega
          have i1 : (j : Int) < (k : Int) := by omega
          by_cases hj0 : j = 0
          · have q0 : decide ((0 : Int) < (j : Int)) = false := by simp; omega
            have q00 : decide (0 < j) = false := by simp; omega
            clear hpw own2
            generalize l'[j] = t at c0r c1r c2r d0 d1 d2 d3
            obtain ⟨kd, tx, nt, pl⟩ := t
            clear hj1 hj2 hj0
            go_wp2_with fail
            go_quiet (fail)
            go_wp2_with fail
            go_roundw
            case rel => exact ⟨j + 1, _, by omega, by go_num, rfl⟩
            case measure => simp [intOf]; omega
          · have q0 : decide ((0 : Int) < (j : Int)) = true := by simp; omega
            have q00 : decide (0 < j) = true := by simp; omega
            obtain ⟨y, hy⟩ : ∃ y, j = y + 1 := ⟨j - 1, by omega⟩
            have hy2 : y < l'.length := by omega
            have b3 := (own_cells own2 hy2).2.2.2
            have hpl := hpw y j hy2 hj2 (by omega)
            have q1 : decide ((l'[j].place : Int) ≤ (l'[y].place : Int)) = false := by simp; omega
            have q11 : ¬ l'[j].place ≤ l'[y].place := by omega
            have hyj : (j : Int) - 1 = (y : Int) := by omega
            clear hpw own2 hpl
            generalize l'[j] = t at c0r c1r c2r d0 d1 d2 d3 q1 q11
            generalize l'[y] = u at b3 q1 q11
            obtain ⟨kd, tx, nt, pl⟩ := t
            obtain ⟨kd2, tx2, nt2, pl2⟩ := u
            simp only at q11
            have i2 : (0 : Int) ≤ (y : Int) := by omega
            have i3 : (y : Int) < (k : Int) := by omega
            clear hj1 hj2 hj0 hy2 hy
            go_wp2_with fail
            go_quiet (fail)
            go_wp2_with fail
            go_roundw
            case rel => exact ⟨j + 1, _, by omega, by go_num, rfl⟩
            case measure => simp [intOf]; omega
        · clear HE2 HE3 HE4 HM
          go_wp2_with fail
          have hd : Below w.heap.size w2 (w2.drewN m) := ⟨rfl, rfl, rfl, Nat.le_refl _, fun _ _ => rfl⟩
          refine (alive_calls _ (RangeVar.below HR.out (HB2.out.trans hd))).mono ?_
          rintro e w3 ⟨rfl, hb3⟩
          have HB3 : Hid (Below w.heap.size w w3) := HB2.out.trans (hd.trans (hb3.mono HB2.out.size))
          clear hd
          clear hb3
          go_wp2
          go_returns
          exact ⟨rfl, HB3.out⟩
set_option maxRecDepth 100000 in
set_option maxHeartbeats 1600000 in
theorem wrong_way (s : ByteArray) (v : Value) (w : World) (hs : s.size ≤ 1024) (l : List Tok) (kk : Nat) (er : Int) (hl : lexOf s = (l, kk, er)) (he : er ≠ 0) (hr : RangeVar w) :
    Calls Tryd.prog 5 #[.string s, v] w fun e w' => e = .returned (.bool true) ∧ Below w.heap.size w w' := by
  have hq : decide ((1024 : Int) < (s.size : Int)) = false := by simp; omega
  have CA := lexTokens_calls s w (by omega) hr
  have HR : Hid (RangeVar w) := hr
  clear hr
  rw [hl] at CA
  simp only at CA
  rw [if_neg he] at CA
  simp only [wrongVal] at CA
  clear hl he
  go_enter Tryd.func5, Tryd.ntmps5
  go_wp2_with fail
  refine CA.mono ?_
  rintro e w1 ⟨va, rfl, -, hb1⟩
  clear CA
  have HB1 : Hid (Below w.heap.size w w1) := hb1
  clear hb1
  go_wp2_with fail
  refine (alive_calls _ (RangeVar.below HR.out HB1.out)).mono ?_
  rintro e w2 ⟨rfl, hb⟩
  have HB2 : Hid (Below w.heap.size w w2) := HB1.out.trans (hb.mono HB1.out.size)
  clear hb
  go_wp2
  go_returns
  exact ⟨rfl, HB2.out⟩
set_option maxRecDepth 100000 in
set_option maxHeartbeats 1600000 in
theorem long_way (s : ByteArray) (v : Value) (w : World) (hs : 1024 < s.size) (hr : RangeVar w) :
    Calls Tryd.prog 5 #[.string s, v] w fun e w' => e = .returned (.bool true) ∧ Below w.heap.size w w' := by
  have hq : decide ((1024 : Int) < (s.size : Int)) = true := by simp; omega
  have HR : Hid (RangeVar w) := hr
  clear hr
  go_enter Tryd.func5, Tryd.ntmps5
  go_wp2_with fail
  refine (alive_calls _ HR.out).mono ?_
  rintro e w2 ⟨rfl, hb⟩
  have HB2 : Hid _ := hb
  clear hb
  go_wp2
  go_returns
  exact ⟨rfl, HB2.out⟩
theorem any_way (s : ByteArray) (ga : Option Addr) (gl gc gb go : Nat) (zs : Nat → Int) (w : World)
    (hga : 0 < gl → ga = some ⟨gb, go, none⟩) (hgb : 0 < gl → gb < w.heap.size) (hG : ∀ j, j < gl → w.cell? ⟨gb, go + j, none⟩ = some (.int .u8 (zs j))) (hz : ∀ j, 0 ≤ zs j ∧ zs j ≤ 255) (hr : RangeVar w) :
    Calls Tryd.prog 5 #[.string s, .slice ga gl gc] w fun e w' => e = .returned (.bool true) ∧ Below w.heap.size w w' := by
  by_cases hs : s.size ≤ 1024
  · obtain ⟨l, k, er, hl⟩ : ∃ l k er, lexOf s = (l, k, er) := ⟨_, _, _, rfl⟩
    by_cases he : er = 0
    · subst he
      exact spread_way s ga gl gc gb go zs w hs l k hl hga hgb hG hz hr
    · exact wrong_way s _ w hs l k er hl he hr
  · exact long_way s _ w (by omega) hr
end Go.Proofs.YtcgfpoaacalfbaaDoor.lexApart
