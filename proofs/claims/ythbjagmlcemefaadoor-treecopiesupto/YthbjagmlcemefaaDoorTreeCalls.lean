/- The program's Calls. -/
import Derived.Test.YthbjagmlcemefaaDoorTreeExprMay
import Derived.Test.YthbjagmlcemefaaDoorExCalls
import Derived.Deep.RegionLaw
namespace Go.Proofs.YthbjagmlcemefaaDoor
open Go.RowKit
open Ex.size Ex.depth Ex.lies Ex.bulk Ex.good Ex.pre Ex.shape Ex.calls
attribute [local go_sem] later_size later_cell later_frozen later_setCell later_drew later_drewN later_tape drewN_setCell drewN_alloc drewN_later later_later lt_more lt_more1 lt_more2 lt_more3 lt_more4 lk0_0_1 lk1_0_1 lk2_0_1 lk0_0_2 lk1_0_2 lk2_0_2 lk0_1_2 lk0_0_3 lk1_0_3 lk2_0_3 lk0_1_3 lk0_2_3 lk0_0_4 lk1_0_4 lk2_0_4 lk0_1_4 lk0_2_4 lk0_3_4 lk0_0_5 lk1_0_5 lk2_0_5 lk0_1_5 lk0_2_5 lk0_3_5 lk0_4_5 lk0_0_6 lk1_0_6 lk2_0_6 lk0_1_6 lk0_2_6 lk0_3_6 lk0_4_6 lk0_5_6 lk0_0_7 lk1_0_7 lk2_0_7 lk0_1_7 lk0_2_7 lk0_3_7 lk0_4_7 lk0_5_7 lk0_6_7
def callStep (s : List ByteArray) (x : Ex × Nat) : List ByteArray := s ++ (if x.1.kd = 4 then [x.1.nm] else [])
theorem call_fold : ∀ (e : Ex) (d : Nat) (s : List ByteArray), List.foldl callStep s (e.pre d) = s ++ e.calls
  | .mk kd pl nm it dn a cap l, d, s => by
    rw [pre_eq, List.foldl_cons, all l]
    simp only [callStep, Ex.calls, List.append_assoc]
where all : ∀ (l : List Ex) (d : Nat) (s : List ByteArray), List.foldl callStep s (pres d l) = s ++ callsAll l
  | [], d, s => by simp [pres, callsAll]
  | e :: r, d, s => by
    rw [pres, List.foldl_append, call_fold e d s, all r]
    simp [callsAll]
theorem call_len (l : List (Ex × Nat)) : ∀ s : List ByteArray, s.length ≤ (List.foldl callStep s l).length := by
  induction l with
  | nil => simp
  | cons x r ih => intro s; rw [List.foldl_cons]; refine Nat.le_trans ?_ (ih _); simp [callStep]
theorem Mine.own_ne {w : World} {B k : Nat} {v : Value} {l : List ByteArray} (h : Mine w B v l) (hk : k < B) : some k ≠ v.ownBlock := fun e => by have := (h.own.lt k e.symm).1; omega
theorem news_one (w : World) (nm : ByteArray) : ∀ j u, ([.string nm] : List Value)[j]? = some u → (w.alloc (.cells #[.string nm] 9)).cell? ((⟨w.heap.size, 0, none⟩ : Addr).add j) = some u := fun j u hj => by
  rw [addr_add, Nat.zero_add, World.cell?_alloc_at _ _ _ _ rfl]
  simpa using hj
theorem one_text {nm : ByteArray} : ∀ u ∈ ([.string nm] : List Value), u.oneCell' = true := fun u hu => by
  rw [List.mem_singleton] at hu
  subst hu
  rfl
theorem alloc_base {w w2 : World} {B : Nat} {o : Obj} (h : B ≤ w.heap.size) (hb : Below w.heap.size w w2) : B ≤ (w2.alloc o).heap.size := by
  have := hb.size
  simp
  omega
theorem after_append {w2 w3 : World} {b o c : Nat} {v u : Value} {r : Option Nat} {ob : Obj} (l1 : c < w2.heap.size) (l2 : b < w2.heap.size) (e1 : w2.cell? ⟨c, 0, none⟩ = some v) (e3 : w2.cell? ⟨b, o + 2, none⟩ = some u) (e2 : w2.frozen? ⟨c, 0, none⟩ = false) (hg : (w2.alloc ob).grownBy w3 r) (hc : some c ≠ r) (hb : some b ≠ r) :
    w3.cell? ⟨c, 0, none⟩ = some v ∧ w3.cell? ⟨b, o + 2, none⟩ = some u ∧ w3.frozen? ⟨c, 0, none⟩ = false :=
  ⟨hg.cell ((World.cell?_alloc_past _ _ _ l1).trans e1) hc, hg.cell ((World.cell?_alloc_past _ _ _ l2).trans e3) hb, (World.frozen?_of_block (w := w2.alloc ob) (hg.block c (by simp; omega) hc)).trans ((World.frozen?_alloc_past _ _ _ l1).trans e2)⟩
theorem grown_below {w w2 w3 : World} {ob : Obj} {r : Option Nat} (hb : Below w.heap.size w w2) (hg : (w2.alloc ob).grownBy w3 r) : w.grownBy w3 r :=
  ⟨hg.os.trans hb.os, hg.tape.trans hb.tape, hg.output.trans hb.output, by have h1 := hg.size; have h2 := hb.size; simp at h1; omega, fun k hk hr => (hg.block k (by have := hb.size; simp; omega) hr).trans ((Below.heap_alloc _ _ _ (by have := hb.size; omega)).trans (hb.block k hk))⟩
theorem mine_snoc {w : World} {B g cap : Nat} {s : List ByteArray} {nm : ByteArray} (h : w.ownsRow B 9 1 (.slice (some ⟨g, 0, none⟩) (s.length + 1) cap) (s.length + 1) (textCells s ++ [.string nm])) : Mine w B (.slice (some ⟨g, 0, none⟩) (s.length + 1) cap) (s ++ [nm]) :=
  ⟨by rw [textCells_append, List.length_append]; exact h, fun h => by simp at h⟩
def CallBox (B c : Nat) (s : List ByteArray) (w : World) : Prop := ∃ v, w.heap[c]? = some (.cells #[v] 30 (0, 0)) ∧ Mine w B v s
set_option maxRecDepth 100000 in
set_option maxHeartbeats 3200000 in
theorem calls1_calls (x : Ex) (b o c B : Nat) (d : Int) (s : List ByteArray) (w : World) (v : Value) (hbx : w.heap[c]? = some (.cells #[v] 30 (0, 0))) (hm : Mine w B v s) (hcB : c < B) (hB : B ≤ w.heap.size) (hcl : ∀ j, j < 6 → w.cell? ⟨b, o + j, none⟩ = x.cells[j]?) (hbB : b < B) (hs : s.length ≤ 1048576) (hbk : x.bulk ≤ 1048576) (h4 : x.kd = 4) :
    Calls Tryd.prog 51 #[.pointer (some ⟨b, o, none⟩), .int .i64 d, .pointer (some ⟨c, 0, none⟩)] w fun r w' => r = .returned (.tuple #[]) ∧ ∃ w2 v', w.grownBy w2 v.ownBlock ∧ Mine w2 B v' (s ++ [x.nm]) ∧ w' = w2.setCell ⟨c, 0, none⟩ v' := by
  obtain ⟨i0, hi, hz0', hz1, hz2⟩ := info_parts Tryd.infoText
  have a1 := cell_of_one hbx
  have f1 := free_of_one hbx
  have hclt := lt_of_block hbx
  have HX : Hid _ := hbx
  have HMi : Hid _ := hm
  have HCB : Hid _ := hcB
  have HB0 : Hid _ := hB
  have HLen1 : Hid (s.length + 1 ≤ maxLen) := by unfold Hid maxLen; omega
  have HLen2 : Hid ((s.length + 1) * 16 ≤ 140737488355328) := by unfold Hid; omega
  have HBB : Hid _ := hbB
  clear hbB
  obtain ⟨hn, hnm⟩ := len_args_bulk hbk
  obtain ⟨kd, pl, nm, it, dn, a, cap, l⟩ := x
  simp only at h4 hnm
  subst h4
  have c0 : w.cell? ⟨b, o, none⟩ = some (.int .u8 4) := hcl 0 (by omega)
  have c2 : w.cell? ⟨b, o + 2, none⟩ = some (.string nm) := hcl 2 (by omega)
  obtain ⟨ao, cp, rfl⟩ := hm.shape
  have HS : Hid (nm.size ≤ 1048576) := hnm
  have HNC : Hid _ := HMi.out.own_ne HCB.out
  have HNB : Hid _ := HMi.out.own_ne HBB.out
  have hblt := World.block_lt_of_cell? w ⟨b, o, none⟩ c0
  clear hcl hbk hn hnm hbx hm hcB hB
  go_enter Tryd.func51, Tryd.ntmps51
  go_wp2_with fail
  go_region_law (first
    | (refine step_append_lies (w2.alloc (.cells #[.string nm] 9)) rfl (.tmp 10) (.tmp 16) 30 rfl B 9 i0 (.string ⟨#[]⟩) 1 16 Tryd.underlying30 hi hz0' hz1 hz2 rfl (by decide) (.slice ao s.length cp) s.length (textCells s) (by simp [Act.eval]) (((HMi.out.below HB2.out).own).alloc _) ⟨w2.heap.size, 0, none⟩ 1 1 [.string nm] (by simp [Act.eval]) rfl (news_one w2 nm) one_text (by decide) HLen1.out HLen2.out (alloc_base HB0.out HB2.out) (w2.alloc (.cells #[.string nm] 9)).heap.size rfl ?_; intro g3 cap3 w3 hown3 hgrow hat hlt3; obtain ⟨e4, e5, e6⟩ := after_append l1 l2 e1 e3 e2 hgrow HNC.out HNB.out; have HOW : Hid _ := hown3; have HGR : Hid _ := hgrow; clear hown3 hgrow)
    | (go_simp; go_wp2_with (go_at_call 52; refine (clone_calls nm _ HS.out).mono ?_; rintro r w2 ⟨rfl, hb2⟩; have e1 := (hb2.cell (p := ⟨c, 0, none⟩) hclt).trans a1; have e3 := (hb2.cell (p := ⟨b, o + 2, none⟩) hblt).trans c2; have e2 := (hb2.frozen (p := ⟨c, 0, none⟩) hclt).trans f1; have HB2 : Hid (Below w.heap.size w w2) := ⟨hb2.os, hb2.tape, hb2.output, hb2.size, hb2.block⟩; have l1 : c < w2.heap.size := Nat.lt_of_lt_of_le hclt hb2.size; have l2 : b < w2.heap.size := Nat.lt_of_lt_of_le hblt hb2.size; clear hb2)))
  all_goals go_wp2
  all_goals go_end0
  all_goals exact ⟨rfl, w3, _, grown_below HB2.out HGR.out, mine_snoc HOW.out, rfl⟩
set_option maxHeartbeats 800000 in
theorem calls1_none (x : Ex) (b o : Nat) (d : Int) (p : Value) (w : World) (hcl : ∀ j, j < 6 → w.cell? ⟨b, o + j, none⟩ = x.cells[j]?) (h4 : ¬ x.kd = 4) :
    Calls Tryd.prog 51 #[.pointer (some ⟨b, o, none⟩), .int .i64 d, p] w fun r w' => r = .returned (.tuple #[]) ∧ w' = w := by
  obtain ⟨kd, pl, nm, it, dn, a, cap, l⟩ := x
  simp only at h4
  have c0 : w.cell? ⟨b, o, none⟩ = some (.int .u8 kd) := hcl 0 (by omega)
  have h4' : (kd == 4) = false := beq_false_of_ne h4
  clear hcl
  go_enter Tryd.func51, Tryd.ntmps51
  go_wp2
  go_end0
  exact ⟨rfl, rfl⟩
theorem row_not_level {w : World} {B n k : Nat} {v : Value} {xs : List Value} (h : w.ownsRow B 9 1 v n xs) {cur : Array Value} (hk : w.heap[k]? = some (.cells cur 104 (0, 0))) : some k ≠ v.ownBlock := fun e => by
  rcases h.2 with ⟨rfl, _⟩ | ⟨g, cap, cu, rfl, _, hg, _⟩
  · cases e
  · cases e
    rw [hg] at hk
    simp at hk
theorem mine_levels {w w' : World} {B B' : Nat} {v : Value} {s : List ByteArray} (h : Mine w B v s) (hb : ButLevels B' w w') : Mine w' B v s := by
  refine ⟨⟨h.own.1, ?_⟩, h.nil⟩
  rcases h.own.2 with h | ⟨g, cap, cur, hv, hb0, hg, rest⟩
  · exact .inl h
  · refine .inr ⟨g, cap, cur, hv, hb0, ?_, rest⟩
    rw [hb.block g (lt_of_block hg) (.inr fun cu h => by rw [hg] at h; simp at h)]
    exact hg
set_option maxRecDepth 100000 in
set_option maxHeartbeats 1600000 in
theorem calls_prog (e : Ex) (hs : e.bulk ≤ 1048576) (hg : e.good) (w : World) (hl : e.lies w) : Calls Tryd.prog 25 #[e.val] w fun x w' => ∃ v, x = .returned v ∧ Mine w' w.heap.size v e.calls ∧ Below w.heap.size w w' := by
  obtain ⟨W, hW⟩ : ∃ W : World, W = ((w.alloc (.cells e.cells.toArray 33)).alloc (.cells #[.slice none 0 0] 30)).alloc (.cells e.cells.toArray 33) := ⟨_, rfl⟩
  have hWs : W.heap.size = w.heap.size + 3 := by rw [hW]; simp
  have hbel : Below w.heap.size w W := by
    rw [hW]
    exact (((Below.refl _ _).alloc (Nat.le_refl _) _).alloc (by simp) _).alloc (by simp; omega) _
  have CW := read_walk callStep (CallBox W.heap.size (w.heap.size + 1)) [] (fun k => k = w.heap.size + 1) w W 51 #[.pointer (some ⟨w.heap.size + 1, 0, none⟩)] e (w.heap.size + 2) 1
    (enters_of Tryd.func51 (by kernel_rfl) rfl) hbel (fun k hk => by omega)
    ⟨_, by rw [hW, Below.heap_alloc _ _ _ (by simp)]; exact heap_alloc_eq (by simp), World.ownsRow_nil _ _ _ _, fun _ => rfl⟩
    (fun s wa wb hC hsz hbl => by
      obtain ⟨v, h1, h2⟩ := hC
      exact ⟨v, (hbl.block _ (lt_of_block h1) (.inl (by omega))).trans h1, mine_levels h2 hbl⟩)
    (by omega) (by omega) (fun j hj => by rw [hW]; exact cell_alloc_eq (by simp)) hl hg hs (Nat.le_refl _) (by unfold maxLen; omega)
    (by
      intro s x d b o wx hC hbs hb hnM hcells hlies hgood hbk hd hrest
      obtain ⟨v, h1, h2⟩ := hC
      obtain ⟨rest, hrest⟩ := hrest
      have hlen := call_len rest (callStep s (x, d))
      rw [hrest, call_fold] at hlen
      have hcs := calls_size e
      have hsb := size_bulk e
      simp only [List.nil_append] at hlen
      by_cases h4 : x.kd = 4
      · have hst : callStep s (x, d) = s ++ [x.nm] := by simp [callStep, h4]
        rw [hst] at hlen ⊢
        simp only [List.length_append, List.length_cons, List.length_nil] at hlen
        refine (calls1_calls x b o _ W.heap.size d s wx v h1 h2 (by omega) hbs.size hcells hb (by omega) hbk h4).mono ?_
        rintro r w' ⟨rfl, w2, v', hgr, hm, rfl⟩
        have hc2 : w2.heap[w.heap.size + 1]? = wx.heap[w.heap.size + 1]? := hgr.block _ (lt_of_block h1) (h2.own_ne (by omega))
        refine ⟨rfl, fun k cur hk => ?_, ⟨hgr.os, hgr.tape, hgr.output, by simpa using hgr.size, fun k hk hm => ?_⟩, ⟨v', one_setCell (hc2.trans h1), ?_⟩⟩
        · rw [Below.heap_setCell _ _ _ _ (fun e => by simp only at e; rw [e, h1] at hk; simp at hk)]
          exact (hgr.block k (lt_of_block hk) (row_not_level h2.own hk)).trans hk
        · rw [Below.heap_setCell _ _ _ _ (fun e => hm e)]
          exact hgr.block k (Nat.lt_of_lt_of_le hk hbs.size) (h2.own_ne hk)
        · exact ⟨ownsRow_setCell_below hm.own (by show w.heap.size + 1 < W.heap.size; omega) _, hm.nil⟩
      · have hst : callStep s (x, d) = s := by simp [callStep, h4]
        rw [hst]
        refine (calls1_none x b o d _ wx hcells h4).mono ?_
        rintro r w' ⟨rfl, rfl⟩
        exact ⟨rfl, fun k cur hk => hk, .refl _ _ _, ⟨v, h1, h2⟩⟩)
  rw [call_fold, List.nil_append] at CW
  generalize e.calls = q at *
  obtain ⟨kd, pl, nm, it, dn, a, cap, l⟩ := e
  simp only [Ex.val, Ex.cells, List.toArray] at *
  have HB : Hid _ := hbel
  have HWS : Hid _ := hWs
  clear hbel hl hg hWs
  subst hW
  go_enter Tryd.func25, Tryd.ntmps25
  go_wp2_with fail
  refine CW.mono ?_
  rintro x w2 ⟨rfl, hbs, v, h1, h2⟩
  obtain ⟨ao, cp, rfl⟩ := h2.shape
  have a1 := cell_of_one h1
  have HBS : Hid (Below w.heap.size w w2) := HB.out.trans (hbs.below (by have := HWS.out; omega) (fun k hk => by omega))
  have HMi : Hid (Mine w2 w.heap.size (.slice ao q.length cp) q) := h2.mono (by have := HWS.out; omega)
  clear CW hbs h1 h2
  go_wp2_with fail
  go_ret
  exact ⟨_, rfl, HMi.out, HBS.out⟩
end Go.Proofs.YthbjagmlcemefaaDoor
