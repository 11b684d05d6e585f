/- A token of its text, as the program makes it: read. -/
import Derived.Test.YthbgnpkgglbhjaaGreatDoorLexWords
import Derived.Test.YthbgnpkgglbhjaaGreatDoorLexParsePlain
import Derived.Test.YthbgnpkgglbhjaaGreatDoorShelf
import Derived.Lib.ConvBytes
import Derived.Lib.UnsafeStr
namespace Go.Proofs.YthbgnpkgglbhjaaGreatDoor
open Go.RowKit Go.Shelf
attribute [local go_sem] later_size later_cell later_frozen later_setCell later_drew later_drewN later_tape drewN_setCell drewN_alloc drewN_later later_later lt_more lt_more1 lt_more2 lt_more3 lt_more4 lk0_0_1 lk1_0_1 lk2_0_1 lk0_0_2 lk1_0_2 lk2_0_2 lk0_1_2 lk0_0_3 lk1_0_3 lk2_0_3 lk0_1_3 lk0_2_3 lk0_0_4 lk1_0_4 lk2_0_4 lk0_1_4 lk0_2_4 lk0_3_4 lk0_0_5 lk1_0_5 lk2_0_5 lk0_1_5 lk0_2_5 lk0_3_5 lk0_4_5 lk0_0_6 lk1_0_6 lk2_0_6 lk0_1_6 lk0_2_6 lk0_3_6 lk0_4_6 lk0_5_6 lk0_0_7 lk1_0_7 lk2_0_7 lk0_1_7 lk0_2_7 lk0_3_7 lk0_4_7 lk0_5_7 lk0_6_7
/-- The variable that the library's reader of numbers tells with what is too great. -/
def RangeVar (w : World) : Prop := ∃ ev, w.cell? ⟨2, 0, none⟩ = some ev ∧ (ev = .nilIface ∨ ∃ te pe, ev = .iface te pe)
theorem RangeVar.below {w w' : World} (h : RangeVar w) (hb : Below w.heap.size w w') : RangeVar w' := by
  obtain ⟨ev, h1, h2⟩ := h
  refine ⟨ev, ?_, h2⟩
  rw [hb.cell (p := ⟨2, 0, none⟩)]
  · exact h1
  · rcases Nat.lt_or_ge 2 w.heap.size with hlt | hge
    · exact hlt
    · simp [World.cell?, Array.getElem?_eq_none hge] at h1
theorem below_bytes (w : World) (e : TypeId) (s : ByteArray) : Below w.heap.size w (Lib.bytesWorld w e s) :=
  Lib.below_freeze ((Below.drew (Below.refl _ w)).alloc (Nat.le_refl _) _) (p := ⟨w.heap.size, (Lib.bytesCells w e s).size, none⟩) (Nat.le_refl _) 1
theorem parse_ok (s : ByteArray) (hs : s.size ≤ 1048576) (v : Int) (h : Lib.parseIntB 64 s.data.toList = .ok v) (w : World) :
    Calls Tryz.prog 118 #[.string s, .int .i64 10, .int .i64 64] w fun e w' => e = .returned (.tuple #[.int .i64 v, .nilIface]) ∧ Below w.heap.size w w' :=
  Calls.mono (Any.strconv_ParseInt_10_at64_ok Tryz.laysPI s (by omega) v h w) fun e w' hh => ⟨hh.1, by
    rcases hh.2 with rfl | ⟨t, rfl⟩
    · exact Below.refl _ _
    · exact below_bytes _ _ _⟩
theorem parse_range (s : ByteArray) (hs : s.size ≤ 1048576) (h : Lib.parseIntB 64 s.data.toList = .range) (w : World) (hv : RangeVar w) :
    Calls Tryz.prog 118 #[.string s, .int .i64 10, .int .i64 64] w fun e w' => ∃ n N, e = .returned (.tuple #[.int .i64 n, .iface 200 (.pointer (some ⟨N, 0, none⟩))]) ∧ Below w.heap.size w w' := by
  obtain ⟨ev, h1, h2⟩ := hv
  exact Calls.mono (Any.strconv_ParseInt_10_at64_range Tryz.laysPI s (by omega) h ev w h1 h2) fun e w' hh => by
    obtain ⟨N, e1, -, -, hb⟩ := hh
    exact ⟨_, N, e1, hb⟩
/-- The world with the two boxes of the call. -/
def boxes (w : World) (k : Int) (t : ByteArray) : World := (w.alloc (.cells #[.int .u8 0, .string ⟨#[]⟩, .int .i64 0, .int .i64 0] 72)).alloc (.cells #[.int .u8 k, .string t, .int .i64 0, .int .i64 0] 72)
theorem boxes_below (w : World) (k : Int) (t : ByteArray) : Below w.heap.size w (boxes w k t) := ((Below.refl _ _).alloc (Nat.le_refl _) _).alloc (by simp) _
set_option maxHeartbeats 1600000 in
theorem read_none (v : Value) (t : ByteArray) (w : World) : Calls Tryz.prog 86 #[v, .int .u8 254, .string t] w fun e w' => e = .returned (.tuple #[.agg #[.int .u8 0, .string ⟨#[]⟩, .int .i64 0, .int .i64 0], .int .i64 30]) ∧ Below w.heap.size w w' := by
  have HB : Hid _ := boxes_below w 254 t
  go_enter Tryz.func86, Tryz.ntmps86
  go_wp2
  refine bodyPost_ret (by simp [results, Tryz.results86, go_sem, *]; try rfl) rfl ?_
  exact ⟨rfl, HB.out⟩
set_option maxHeartbeats 1600000 in
theorem read_sign (v : Value) (t : ByteArray) (w : World) : Calls Tryz.prog 86 #[v, .int .u8 4, .string t] w fun e w' => e = .returned (.tuple #[.agg #[.int .u8 4, .string t, .int .i64 0, .int .i64 0], .int .i64 0]) ∧ Below w.heap.size w w' := by
  go_enter Tryz.func86, Tryz.ntmps86
  go_wp2
  refine bodyPost_ret (by simp [results, Tryz.results86, go_sem, *]; try rfl) rfl ?_
  exact ⟨rfl, ((Below.refl _ _).alloc (Nat.le_refl _) _).alloc (by simp) _⟩
set_option maxHeartbeats 1600000 in
set_option maxRecDepth 100000 in
theorem read_name (b : Nat) (t : ByteArray) (w : World) (hw : HasWords w b) (hs : t.size ≤ 1048576) : Calls Tryz.prog 86 #[.map (some b), .int .u8 1, .string t] w fun e w' => e = .returned (if t.size ≤ 32 then .tuple #[.agg #[.int .u8 (if wordB t = true then 3 else 1), .string t, .int .i64 0, .int .i64 0], .int .i64 0] else .tuple #[.agg #[.int .u8 0, .string ⟨#[]⟩, .int .i64 0, .int .i64 0], .int .i64 32]) ∧ Below w.heap.size w w' := by
  have hB := boxes_below w 1 t
  obtain ⟨c, hl, hc⟩ := (hw.below hB).look t (by unfold maxLen; omega)
  have HB : Hid _ := hB
  have HC : Hid _ := hc
  clear hB hc hw
  unfold boxes at hl
  by_cases h32 : t.size ≤ 32
  · rw [if_pos h32]
    have hq : decide ((32 : Int) < (t.size : Int)) = false := by simp; omega
    clear h32
    rcases hwd : wordB t with _ | _
    · rw [hwd] at hl
      go_enter Tryz.func86, Tryz.ntmps86
      go_wp2
      refine bodyPost_ret (by simp [results, Tryz.results86, go_sem, *]; try rfl) rfl ?_
      exact ⟨rfl, ((Below.refl _ _).alloc (Nat.le_refl _) _).alloc (by simp) _⟩
    · obtain rfl := HC.out hwd
      rw [hwd] at hl
      go_enter Tryz.func86, Tryz.ntmps86
      go_wp2
      refine bodyPost_ret (by simp [results, Tryz.results86, go_sem, *]; try rfl) rfl ?_
      exact ⟨rfl, ((Below.refl _ _).alloc (Nat.le_refl _) _).alloc (by simp) _⟩
  · rw [if_neg h32]
    have hq : decide ((32 : Int) < (t.size : Int)) = true := by simp; omega
    clear h32 hl
    go_enter Tryz.func86, Tryz.ntmps86
    go_wp2
    refine bodyPost_ret (by simp [results, Tryz.results86, go_sem, *]; try rfl) rfl ?_
    exact ⟨rfl, HB.out⟩
theorem boxes_size (w : World) (k : Int) (t : ByteArray) : (boxes w k t).heap.size = w.heap.size + 2 := by simp [boxes]
theorem boxes_after {w w1 : World} {k : Int} {t : ByteArray} (hb : Below (boxes w k t).heap.size (boxes w k t) w1) : w1.cell? ⟨w.heap.size, 0, none⟩ = some (.int .u8 0) ∧ w1.cell? ⟨w.heap.size, 1, none⟩ = some (.string ⟨#[]⟩) ∧ w1.cell? ⟨w.heap.size, 2, none⟩ = some (.int .i64 0) ∧ w1.cell? ⟨w.heap.size, 3, none⟩ = some (.int .i64 0) ∧ w1.frozen? ⟨w.heap.size, 0, none⟩ = false ∧ w1.frozen? ⟨w.heap.size, 1, none⟩ = false ∧ w1.frozen? ⟨w.heap.size, 2, none⟩ = false ∧ w1.frozen? ⟨w.heap.size, 3, none⟩ = false ∧ w1.cell? ⟨w.heap.size + 1, 0, none⟩ = some (.int .u8 k) ∧ w1.cell? ⟨w.heap.size + 1, 1, none⟩ = some (.string t) ∧ w1.cell? ⟨w.heap.size + 1, 2, none⟩ = some (.int .i64 0) ∧ w1.cell? ⟨w.heap.size + 1, 3, none⟩ = some (.int .i64 0) ∧ w1.frozen? ⟨w.heap.size + 1, 0, none⟩ = false ∧ w1.frozen? ⟨w.heap.size + 1, 1, none⟩ = false ∧ w1.frozen? ⟨w.heap.size + 1, 2, none⟩ = false ∧ w1.frozen? ⟨w.heap.size + 1, 3, none⟩ = false :=
  ⟨(hb.cell (p := ⟨w.heap.size, 0, none⟩) (by rw [boxes_size]; show w.heap.size < w.heap.size + 2; omega)).trans (by simp [boxes]), (hb.cell (p := ⟨w.heap.size, 1, none⟩) (by rw [boxes_size]; show w.heap.size < w.heap.size + 2; omega)).trans (by simp [boxes]), (hb.cell (p := ⟨w.heap.size, 2, none⟩) (by rw [boxes_size]; show w.heap.size < w.heap.size + 2; omega)).trans (by simp [boxes]), (hb.cell (p := ⟨w.heap.size, 3, none⟩) (by rw [boxes_size]; show w.heap.size < w.heap.size + 2; omega)).trans (by simp [boxes]), (hb.frozen (p := ⟨w.heap.size, 0, none⟩) (by rw [boxes_size]; show w.heap.size < w.heap.size + 2; omega)).trans (by simp [boxes]), (hb.frozen (p := ⟨w.heap.size, 1, none⟩) (by rw [boxes_size]; show w.heap.size < w.heap.size + 2; omega)).trans (by simp [boxes]), (hb.frozen (p := ⟨w.heap.size, 2, none⟩) (by rw [boxes_size]; show w.heap.size < w.heap.size + 2; omega)).trans (by simp [boxes]), (hb.frozen (p := ⟨w.heap.size, 3, none⟩) (by rw [boxes_size]; show w.heap.size < w.heap.size + 2; omega)).trans (by simp [boxes]), (hb.cell (p := ⟨w.heap.size + 1, 0, none⟩) (by rw [boxes_size]; show w.heap.size + 1 < w.heap.size + 2; omega)).trans (by simp [boxes]), (hb.cell (p := ⟨w.heap.size + 1, 1, none⟩) (by rw [boxes_size]; show w.heap.size + 1 < w.heap.size + 2; omega)).trans (by simp [boxes]), (hb.cell (p := ⟨w.heap.size + 1, 2, none⟩) (by rw [boxes_size]; show w.heap.size + 1 < w.heap.size + 2; omega)).trans (by simp [boxes]), (hb.cell (p := ⟨w.heap.size + 1, 3, none⟩) (by rw [boxes_size]; show w.heap.size + 1 < w.heap.size + 2; omega)).trans (by simp [boxes]), (hb.frozen (p := ⟨w.heap.size + 1, 0, none⟩) (by rw [boxes_size]; show w.heap.size + 1 < w.heap.size + 2; omega)).trans (by simp [boxes]), (hb.frozen (p := ⟨w.heap.size + 1, 1, none⟩) (by rw [boxes_size]; show w.heap.size + 1 < w.heap.size + 2; omega)).trans (by simp [boxes]), (hb.frozen (p := ⟨w.heap.size + 1, 2, none⟩) (by rw [boxes_size]; show w.heap.size + 1 < w.heap.size + 2; omega)).trans (by simp [boxes]), (hb.frozen (p := ⟨w.heap.size + 1, 3, none⟩) (by rw [boxes_size]; show w.heap.size + 1 < w.heap.size + 2; omega)).trans (by simp [boxes])⟩
/-- Behind the reader: what is below, and the boxes' cells. -/
theorem boxes_on {w w1 : World} {k : Int} {t : ByteArray} (hb : Below (boxes w k t).heap.size (boxes w k t) w1) : Below w.heap.size w w1 := (boxes_below w k t).trans (hb.mono (by rw [boxes_size]; omega))
set_option maxHeartbeats 1600000 in
set_option maxRecDepth 100000 in
theorem read_num_ok (v : Value) (t : ByteArray) (w : World) (hs : t.size ≤ 1048576) (hd : Digits t) (h0 : 0 < t.size) (hn : numOk t = true) : Calls Tryz.prog 86 #[v, .int .u8 2, .string t] w fun e w' => e = .returned (.tuple #[.agg #[.int .u8 2, .string t, .int .i64 (numVal t), .int .i64 0], .int .i64 0]) ∧ Below w.heap.size w w' := by
  have hv : numVal t = numTo t t.size := if_pos hn
  rw [numOk_iff hd, decide_eq_true_eq] at hn
  obtain ⟨hn1, hn2⟩ := hn
  have hp := parseI t hd h0
  rw [if_pos hn1] at hp
  rw [hv]
  have HC := parse_ok t hs _ hp (boxes w 2 t)
  have hbyte : byteAt t 0 = (t[0].toNat : Int) := byteAt_lt h0
  rw [hbyte] at hn2
  generalize numTo t t.size = N at HC
  clear hp hn1 hv hd hbyte
  have hW : boxes w 2 t = (w.alloc (.cells #[.int .u8 0, .string ⟨#[]⟩, .int .i64 0, .int .i64 0] 72)).alloc (.cells #[.int .u8 2, .string t, .int .i64 0, .int .i64 0] 72) := rfl
  have HW : Hid _ := hW
  clear hW
  by_cases hz : (t[0].toNat : Int) = 48
  · have hq : decide ((1 : Int) < (t.size : Int)) = false := by simp; omega
    clear hn2
    go_enter Tryz.func86, Tryz.ntmps86
    go_wp2_with fail
    rw [← HW.out]
    refine HC.mono ?_
    rintro e w1 ⟨rfl, hb⟩
    obtain ⟨z0, z1, z2, z3, e0, e1, e2, e3, c0, c1, c2, c3, f0, f1, f2, f3⟩ := boxes_after hb
    have HB : Hid _ := boxes_on hb
    clear hb HC
    go_wp2
    refine bodyPost_ret (by simp [results, Tryz.results86, go_sem, *]; try rfl) rfl ?_
    exact ⟨rfl, (((((HB.out.setCell (p := ⟨w.heap.size + 1, 2, none⟩) (by simp) _).setCell (p := ⟨w.heap.size, 0, none⟩) (Nat.le_refl _) _).setCell (p := ⟨w.heap.size, 1, none⟩) (Nat.le_refl _) _).setCell (p := ⟨w.heap.size, 2, none⟩) (Nat.le_refl _) _).setCell (p := ⟨w.heap.size, 3, none⟩) (Nat.le_refl _) _)⟩
  · clear hn2
    go_enter Tryz.func86, Tryz.ntmps86
    go_wp2_with fail
    rw [← HW.out]
    refine HC.mono ?_
    rintro e w1 ⟨rfl, hb⟩
    obtain ⟨z0, z1, z2, z3, e0, e1, e2, e3, c0, c1, c2, c3, f0, f1, f2, f3⟩ := boxes_after hb
    have HB : Hid _ := boxes_on hb
    clear hb HC
    go_wp2
    refine bodyPost_ret (by simp [results, Tryz.results86, go_sem, *]; try rfl) rfl ?_
    exact ⟨rfl, (((((HB.out.setCell (p := ⟨w.heap.size + 1, 2, none⟩) (by simp) _).setCell (p := ⟨w.heap.size, 0, none⟩) (Nat.le_refl _) _).setCell (p := ⟨w.heap.size, 1, none⟩) (Nat.le_refl _) _).setCell (p := ⟨w.heap.size, 2, none⟩) (Nat.le_refl _) _).setCell (p := ⟨w.heap.size, 3, none⟩) (Nat.le_refl _) _)⟩
set_option maxHeartbeats 1600000 in
set_option maxRecDepth 100000 in
theorem read_num_bad (v : Value) (t : ByteArray) (w : World) (hr : RangeVar w) (hs : t.size ≤ 1048576) (hd : Digits t) (h0 : 0 < t.size) (hn : numOk t = false) : Calls Tryz.prog 86 #[v, .int .u8 2, .string t] w fun e w' => e = .returned (.tuple #[.agg #[.int .u8 0, .string ⟨#[]⟩, .int .i64 0, .int .i64 0], .int .i64 31]) ∧ Below w.heap.size w w' := by
  rw [numOk_iff hd, decide_eq_false_iff_not] at hn
  have hp := parseI t hd h0
  have hbyte : byteAt t 0 = (t[0].toNat : Int) := byteAt_lt h0
  rw [hbyte] at hn
  clear hbyte
  have hW : boxes w 2 t = (w.alloc (.cells #[.int .u8 0, .string ⟨#[]⟩, .int .i64 0, .int .i64 0] 72)).alloc (.cells #[.int .u8 2, .string t, .int .i64 0, .int .i64 0] 72) := rfl
  have HW : Hid _ := hW
  clear hW
  by_cases hm : numTo t t.size ≤ 9223372036854775807
  · rw [if_pos hm] at hp
    have HC := parse_ok t hs _ hp (boxes w 2 t)
    have hn2 : 1 < t.size ∧ (t[0].toNat : Int) = 48 := Classical.byContradiction fun h => hn ⟨hm, h⟩
    obtain ⟨hq0, hz⟩ := hn2
    have hq : decide ((1 : Int) < (t.size : Int)) = true := by simp; omega
    generalize numTo t t.size = N at HC
    clear hp hm hd hn hq0
    go_enter Tryz.func86, Tryz.ntmps86
    go_wp2_with fail
    rw [← HW.out]
    refine HC.mono ?_
    rintro e w1 ⟨rfl, hb⟩
    obtain ⟨z0, z1, z2, z3, e0, e1, e2, e3, c0, c1, c2, c3, f0, f1, f2, f3⟩ := boxes_after hb
    have HB : Hid _ := boxes_on hb
    clear hb HC
    go_wp2
    refine bodyPost_ret (by simp [results, Tryz.results86, go_sem, *]; try rfl) rfl ?_
    exact ⟨rfl, ((((HB.out.setCell (p := ⟨w.heap.size, 0, none⟩) (Nat.le_refl _) _).setCell (p := ⟨w.heap.size, 1, none⟩) (Nat.le_refl _) _).setCell (p := ⟨w.heap.size, 2, none⟩) (Nat.le_refl _) _).setCell (p := ⟨w.heap.size, 3, none⟩) (Nat.le_refl _) _)⟩
  · rw [if_neg hm] at hp
    have HC := parse_range t hs hp (boxes w 2 t) (hr.below (boxes_below w 2 t))
    clear hp hm hd hn hr
    go_enter Tryz.func86, Tryz.ntmps86
    go_wp2_with fail
    rw [← HW.out]
    refine HC.mono ?_
    rintro e w1 ⟨n, N, rfl, hb⟩
    obtain ⟨z0, z1, z2, z3, e0, e1, e2, e3, c0, c1, c2, c3, f0, f1, f2, f3⟩ := boxes_after hb
    have HB : Hid _ := boxes_on hb
    clear hb HC
    go_wp2
    refine bodyPost_ret (by simp [results, Tryz.results86, go_sem, *]; try rfl) rfl ?_
    exact ⟨rfl, ((((HB.out.setCell (p := ⟨w.heap.size, 0, none⟩) (Nat.le_refl _) _).setCell (p := ⟨w.heap.size, 1, none⟩) (Nat.le_refl _) _).setCell (p := ⟨w.heap.size, 2, none⟩) (Nat.le_refl _) _).setCell (p := ⟨w.heap.size, 3, none⟩) (Nat.le_refl _) _)⟩
end Go.Proofs.YthbgnpkgglbhjaaGreatDoor
